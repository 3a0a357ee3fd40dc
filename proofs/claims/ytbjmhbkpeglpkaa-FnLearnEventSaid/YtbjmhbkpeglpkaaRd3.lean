/- What is drawn for chapter 1. Conditions: a row of bytes that came in. -/
import Derived.Test.YtbjmhbkpeglpkaaKit
import Derived.Test.YtbjmhbkpeglpkaaEv2
import Derived.Deep.DeepCutAuto
namespace Go.Proofs.Ytbjmhbkpeglpkaa
open Go.RowKit
set_option linter.unusedVariables false

/-- two numbers that are not far from nothing -/
def Two (B : Nat) (w : World) (e : Ending) (w' : World) : Prop :=
  ∃ x y : Int, e = .returned (.tuple #[.int .i64 x, .int .i64 y]) ∧ -100 ≤ x ∧ x ≤ 100 ∧ -100 ≤ y ∧ y ≤ 100 ∧ Below B w w'

def TwoR (R P : Nat) (w : World) (e : Ending) (w' : World) : Prop :=
  ∃ x y : Int, e = .returned (.tuple #[.int .i64 x, .int .i64 y]) ∧ 0 ≤ x ∧ x ≤ 5 ∧ -17 ≤ y ∧ y ≤ 31 ∧ Picked R P w w'

/-- three numbers; of the last one nothing is told -/
def Three (B : Nat) (w : World) (e : Ending) (w' : World) : Prop :=
  ∃ x y z : Int, e = .returned (.tuple #[.int .i64 x, .int .i64 y, .int .i64 z]) ∧ Below B w w'

def ThreeR (R P : Nat) (w : World) (e : Ending) (w' : World) : Prop :=
  ∃ x y z : Int, e = .returned (.tuple #[.int .i64 x, .int .i64 y, .int .i64 z]) ∧ Picked R P w w'

end Go.Proofs.Ytbjmhbkpeglpkaa
