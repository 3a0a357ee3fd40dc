/- What is drawn of measures: l20Measure. Conditions: a reader, few picks before. -/
import Derived.Test.YtfjmlbcmidichaaDi
import Derived.Test.YtfjmlbcmidichaaDt
import Derived.Test.YtfjmlbcmidichaaMe
namespace Go.Proofs.Ytfjmlbcmidichaa
open Go.RowKit
set_option linter.unusedVariables false

/-- numbers from 0 to B -/
def Bnd (B : Int) (xs : List Int) : Prop := ∀ x ∈ xs, 0 ≤ x ∧ x ≤ B

theorem Bnd.at_ {B : Int} {xs : List Int} (h : Bnd B xs) {k : Nat} {x : Int} (hx : xs[k]? = some x) : 0 ≤ x ∧ x ≤ B := h x (List.mem_of_getElem? hx)

theorem Bnd.set_ {B : Int} {xs : List Int} (h : Bnd B xs) (k : Nat) {x : Int} (hx : 0 ≤ x ∧ x ≤ B) : Bnd B (xs.set k x) := fun y hy => by
  rcases List.mem_or_eq_of_mem_set hy with h1 | h1
  · exact h y h1
  · rw [h1]; exact hx

theorem Bnd.mono {B C : Int} {xs : List Int} (h : Bnd B xs) (hBC : B ≤ C) : Bnd C xs := fun x hx => by have := h x hx; omega

theorem GamRel.alloc {w wr : World} {R P : Nat} {p : Value} {xs : List Int} (h : GamRel w R P p xs wr) (o : Obj) : GamRel w R P p xs (wr.alloc o) :=
  ⟨h.1.keep (by simp) (fun b hb => Below.heap_alloc wr o b hb), h.2.1.keep (SameAt.grow rfl), grow_trans h.2.2.1 (World.grownBy_alloc wr o (some R)), h.2.2.2⟩

/-- a measure that was drawn: it need not be one -/
def MeaR (w : World) (R P : Nat) (e : Ending) (w' : World) : Prop := ∃ v xs, e = .returned v ∧ GamRel w R P v xs w' ∧ xs.length ≤ 4 ∧ Bnd 37 xs

end Go.Proofs.Ytfjmlbcmidichaa
