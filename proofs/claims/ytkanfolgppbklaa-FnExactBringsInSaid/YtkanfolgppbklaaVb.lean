/- Contracts of the program's functions on tables and bets: AdditiveOk, MeasureOf, BringsIn, BetsAgainst, and their helpers. Conditions: rows that read as lists. -/
import Derived.Test.YtkanfolgppbklaaVa
import Derived.Test.YtkanfolgppbklaaUg
namespace Go.Proofs.Ytkanfolgppbklaa
open Go.RowKit
set_option linter.unusedVariables false

theorem allW_any (w : Int) (h1 : 1 ≤ w) (h2 : w ≤ 4) (L : Nat) (hL : allI w = (L : Int)) (W : World) :
    Calls Try.prog 30 #[.int .i64 w] W fun e W' => e = .returned (.int .i64 (L : Int)) ∧ W = W' := by
  rw [← hL]; exact allWorlds_any w h1 h2 W

theorem all_last {m L : Nat} {t : List Int} (hl : t.length = 2 ^ m) (hL : t.length = L + 1) : allI (m : Int) = (L : Int) := by
  rw [allI, Int.toNat_natCast]
  have : ((2 ^ m : Nat) : Int) = 2 ^ m := by push_cast; rfl
  rw [← this, ← hl, hL]
  omega

end Go.Proofs.Ytkanfolgppbklaa
