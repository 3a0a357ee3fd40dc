/- What is drawn for chapter 6: a book and an event, a quote, a gamble. Conditions: a row of bytes that came in. -/
import Derived.Test.YtodmgcbcacblbaaDw
import Derived.Test.YtodmgcbcacblbaaDi
namespace Go.Proofs.Ytodmgcbcacblbaa
open Go.RowKit
set_option linter.unusedVariables false

/-- a number, a book and an event that were drawn -/
def BoundR (w : World) (R P : Nat) (e : Ending) (w' : World) : Prop :=
  ∃ (x : Int) (v : Value) (qs : List Qt) (y : Int), e = .returned (.tuple #[.int .i64 x, v, .int .i64 y]) ∧ QOwn w' w.heap.size v qs ∧ qs.length ≤ 4 ∧ DR w R P w'

theorem BoundR.fin {w w1 : World} {R P Q : Nat} {x y : Int} {v : Value} {qs : List Qt} (o : QOwn w1 w.heap.size v qs) (hl : qs.length ≤ 4) (d : DR w R P w1) (hPQ : P ≤ Q) : BoundR w R Q (.returned (.tuple #[.int .i64 x, v, .int .i64 y])) w1 :=
  ⟨x, v, qs, y, rfl, o, hl, d.mono hPQ⟩

/-- a book of the call's own through a pick -/
theorem own_pick {w w1 w2 : World} {R P Q : Nat} {v : Value} {qs : List Qt} (o : QOwn w1 w.heap.size v qs) (d : DR w R P w1) (k : Picked R Q w1 w2) : QOwn w2 w.heap.size v qs :=
  GOwn.dr o (⟨k.rd, k.grown, d.1.lt⟩ : DR w1 R Q w2) d.2.2

/-- as a law reads it -/
def DrawBd (w : World) (e : Ending) (w' : World) : Prop :=
  ∃ (x : Int) (v : Value) (qs : List Qt) (y : Int), e = .returned (.tuple #[.int .i64 x, v, .int .i64 y]) ∧ QOwn w' w.heap.size v qs ∧ qs.length ≤ 4 ∧ Below w.heap.size w w'

/-- a number, a book and a quote that were drawn -/
def DrawBq (w : World) (e : Ending) (w' : World) : Prop :=
  ∃ (x : Int) (v : Value) (qs : List Qt) (q : Qt), e = .returned (.tuple #[.int .i64 x, v, qV q]) ∧ QOwn w' (w.heap.size + 1) v qs ∧ qs.length ≤ 4 ∧ Below w.heap.size w w'

theorem own_set {w : World} {base g : Nat} {v : Value} {qs : List Qt} (o : QOwn w base v qs) (hg : g < base) (x y : Value) : QOwn ((w.setCell ⟨g, 0, none⟩ x).setCell ⟨g, 1, none⟩ y) base v qs :=
  o.keep ⟨by simp [World.setCell], fun k hk hlt => by
    have := (o.ge k hk).1
    rw [Below.heap_setCell _ ⟨g, 1, none⟩ _ _ (show k ≠ g by omega), Below.heap_setCell _ ⟨g, 0, none⟩ _ _ (show k ≠ g by omega)]⟩

/-- a number, a book and a gamble that were drawn -/
def DrawBg (w : World) (e : Ending) (w' : World) : Prop :=
  ∃ (x : Int) (v : Value) (qs : List Qt) (u : Value) (g : List Int), e = .returned (.tuple #[.int .i64 x, v, u]) ∧ QOwn w' w.heap.size v qs ∧ IOwn w' w.heap.size u g ∧ qs.length ≤ 4 ∧ g.length ≤ 8 ∧ Below w.heap.size w w'

end Go.Proofs.Ytodmgcbcacblbaa
