/- What is drawn for the laws of GainOf and OtherQuote. Conditions: a row of bytes that came in. -/
import Derived.Test.YtfdgelikmhaagaaDs
namespace Go.Proofs.Ytfdgelikmhaagaa
open Go.RowKit
set_option linter.unusedVariables false

theorem Blk.fin {w : World} {g : Nat} {t : TypeId} {x y : Value} (h : Blk w g t #[x, y]) (u v : Value) :
    ((w.setCell ⟨g, 0, none⟩ u).setCell ⟨g, 1, none⟩ v).cell? ⟨g, 0, none⟩ = some u ∧ ((w.setCell ⟨g, 0, none⟩ u).setCell ⟨g, 1, none⟩ v).cell? ⟨g, 1, none⟩ = some v := by
  have BB := (h.set_ 0 u).set_ 1 v
  exact ⟨BB.cell 0, BB.cell 1⟩

/-- a number, a quote and a stake that were drawn -/
def DrawNQS (w : World) (e : Ending) (w' : World) : Prop := ∃ (x : Int) (q : Qt) (s : Int), e = .returned (.tuple #[.int .i64 x, qV q, .int .i64 s]) ∧ Below w.heap.size w w'

end Go.Proofs.Ytfdgelikmhaagaa
