/- What is drawn for chapter 2 where one gamble is drawn. Conditions: a row of bytes that came in. -/
import Derived.Test.YtfdgelikmhaagaaDh
namespace Go.Proofs.Ytfdgelikmhaagaa
open Go.RowKit
set_option linter.unusedVariables false

/-- a fresh row of few numbers that are not far from nothing -/
def DrawRow (w : World) (e : Ending) (w' : World) : Prop := ∃ v xs, e = .returned v ∧ IOwn w' w.heap.size v xs ∧ xs.length ≤ 8 ∧ Amt 1090 xs ∧ Below w.heap.size w w'

theorem drawn_row {w w1 w2 w3 : World} {P Q : Nat} {v : Value} {xs : List Int} (ho : Opened w w1) (k : Picked w.heap.size P w1 w2) (h : GamRel w2 w.heap.size Q v xs w3) : IOwn w3 w.heap.size v xs ∧ Below w.heap.size w w3 := by
  have h1 := ho.picked k
  exact ⟨h.2.1.base h1.size, h1.grown h.2.2.1 h1.size (fun g hg => by injection hg with hg; omega)⟩

/-- a fresh row and a number -/
def DrawRowNum (w : World) (e : Ending) (w' : World) : Prop := ∃ (v : Value) (xs : List Int) (t : Int), e = .returned (.tuple #[v, .int .i64 t]) ∧ IOwn w' w.heap.size v xs ∧ xs.length ≤ 8 ∧ Amt 1090 xs ∧ -4 ≤ t ∧ t ≤ 1004 ∧ Below w.heap.size w w'

theorem Picked.far {R P : Nat} {w w' : World} {v : Value} {xs : List Int} {base : Nat} (h : Picked R P w w') (o : IOwn w base v xs) (hb : R < base) : IOwn w' base v xs := by
  refine o.keep (SameAt.of_grown h.grown ?_)
  rcases hv : v.ownBlock with _ | g
  · exact .inl rfl
  · refine .inr fun e => ?_
    have := (o.ge g hv).1
    injection e with e
    omega

end Go.Proofs.Ytfdgelikmhaagaa
