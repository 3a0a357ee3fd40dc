/- The walk of the exact law of PartsOf, of a row that came in. Condition: the tables of package math/bits are laid. -/
import Derived.Test.YtnleljofoljdkaaDoorTab
import Derived.Test.YtnleljofoljdkaaDoorRow
namespace Go.Proofs.YtnleljofoljdkaaDoor
open Go.RowKit
set_option linter.unusedVariables false

theorem FnExactPartsOf_walk (a0 : Int) (a1 : Option Addr) (len1 cap1 : Nat) (z1 : List Int) (w : World) (w0 : (Lit.int .i64 a0).wf = true) (w1 : IsRowC .i64 w a1 len1 cap1 z1) (ht : Tab w) :
    Calls Tryd.prog 4 #[.int .i64 a0, .slice a1 len1 cap1] w fun e w' => e = .returned (.bool true) ∧ Below w.heap.size w w' := by
  obtain ⟨xs, h⟩ := ird_of_row w1
  exact exactPartsOf_any w a0 _ xs h ht

end Go.Proofs.YtnleljofoljdkaaDoor
