/- What is drawn for chapter 5: books; a book and stakes. Conditions: a row of bytes that came in. -/
import Derived.Test.YteljcicdibbhdaaSc
import Derived.Test.YteljcicdibbhdaaDw
namespace Go.Proofs.Yteljcicdibbhdaa
open Go.RowKit
set_option linter.unusedVariables false

theorem lossR_len (n : Int) (qs : List Qt) : (lossR n qs).length ≤ 4 := by
  rw [lossR]
  cases hl : losing n qs with
  | none => simp
  | some ss =>
    obtain ⟨h1, h2, -⟩ := losing_some hl
    have := ((bokB_iff _ _).1 h1).2.1
    show ss.length ≤ 4
    omega

theorem below_grow5 {w w' : World} (h : Below w.heap.size w w') : w.grownBy w' none := ⟨h.os, h.tape, h.output, h.size, fun k hk _ => h.block k hk⟩

/-- what is at hand once the book is drawn -/
def BkSt (w w1 : World) (P : Nat) (u : Value) (qs : List Qt) (wr : World) : Prop := DR w1 w.heap.size P wr ∧ QOwn wr w1.heap.size u qs ∧ Below w.heap.size w w1 ∧ w.heap.size < w1.heap.size

theorem BkSt.picked {w w1 wr w' : World} {P Q : Nat} {u : Value} {qs : List Qt} (h : BkSt w w1 P u qs wr) (k : Picked w.heap.size Q wr w') : BkSt w w1 Q u qs w' :=
  ⟨h.1.picked k, GOwn.dr h.2.1 (⟨k.rd, k.grown, h.1.1.lt⟩ : DR wr w.heap.size Q w') h.2.2.2, h.2.2⟩

theorem BkSt.fin {w w1 wr w' : World} {P Q : Nat} {u v : Value} {qs : List Qt} {xs : List Int} (h : BkSt w w1 P u qs wr) (k : GamRel wr w.heap.size Q v xs w') : QOwn w' w.heap.size u qs ∧ IOwn w' w.heap.size v xs ∧ Below w.heap.size w w' := by
  have b1 : Below w.heap.size w wr := below_dr h.2.2.1 h.1 (Nat.le_refl _)
  refine ⟨(GOwn.dr h.2.1 (⟨k.1, k.2.2.1, h.1.1.lt⟩ : DR wr w.heap.size Q w') h.2.2.2).base h.2.2.1.size, k.2.1.base b1.size, b1.grown k.2.2.1 b1.size (fun g hg => by injection hg with hg; omega)⟩

end Go.Proofs.Yteljcicdibbhdaa
