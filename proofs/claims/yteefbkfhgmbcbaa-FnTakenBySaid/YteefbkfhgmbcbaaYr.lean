/- A reader that stands while rows of the call's own turn (for draws that return rows). Conditions: stated at each. -/
import Derived.Test.YteefbkfhgmbcbaaKit
import Derived.Test.YteefbkfhgmbcbaaRd2
import Derived.Lib.Hide
namespace Go.Proofs.Yteefbkfhgmbcbaa
open Go.RowKit
set_option linter.unusedVariables false

theorem grT {w w1 w2 : World} {r : Option Nat} (h : w.grownBy w1 r) (k : w1.grownBy w2 r) : w.grownBy w2 r :=
  ⟨k.os.trans h.os, k.tape.trans h.tape, k.output.trans h.output, Nat.le_trans h.size k.size, fun i hi hne => (k.block i (Nat.lt_of_lt_of_le hi h.size) hne).trans (h.block i hi hne)⟩

theorem grF {w w1 w2 : World} {r s : Option Nat} (h : w.grownBy w1 r) (k : w1.grownBy w2 s) (hs : ∀ g, s = some g → w.heap.size ≤ g) : w.grownBy w2 r :=
  ⟨k.os.trans h.os, k.tape.trans h.tape, k.output.trans h.output, Nat.le_trans h.size k.size, fun i hi hne => (k.block i (Nat.lt_of_lt_of_le hi h.size) (fun e => by have := hs i e.symm; omega)).trans (h.block i hi hne)⟩

/-- a reader stands at R, and nothing that was there in w has turned but it -/
def SR (w : World) (R P : Nat) (wr : World) : Prop := Rd wr R P ∧ w.grownBy wr (some R) ∧ R < w.heap.size

theorem SR.start {w : World} {R P : Nat} (h : Rd w R P) : SR w R P w := ⟨h, World.grownBy.refl _ _, h.lt⟩

theorem SR.picked {w wr w' : World} {R P Q : Nat} (h : SR w R P wr) (k : Picked R Q wr w') : SR w R Q w' := ⟨k.rd, grT h.2.1 k.grown, h.2.2⟩

theorem SR.alloc {w wr : World} {R P : Nat} (h : SR w R P wr) (o : Obj) : SR w R P (wr.alloc o) :=
  ⟨h.1.keep (by simp) (fun b hb => Below.heap_alloc wr _ b hb), grT h.2.1 (World.grownBy_alloc _ _ _), h.2.2⟩

theorem SR.drew {w wr : World} {R P : Nat} (h : SR w R P wr) : SR w R P wr.drew := ⟨h.1, ⟨h.2.1.os, h.2.1.tape, h.2.1.output, h.2.1.size, h.2.1.block⟩, h.2.2⟩

theorem SR.mono {w wr : World} {R P Q : Nat} (h : SR w R P wr) (hPQ : P ≤ Q) : SR w R Q wr := ⟨h.1.mono hPQ, h.2⟩

/-- a row of the call's own has turned -/
theorem SR.grown {w wr w' : World} {R P : Nat} {row : Option Nat} (h : SR w R P wr) (hg : wr.grownBy w' row) (hr : ∀ g, row = some g → w.heap.size ≤ g) : SR w R P w' :=
  ⟨h.1.grown hg (fun g hg' => by have := hr g hg'; have := h.2.2; omega), grF h.2.1 hg hr, h.2.2⟩

/-- what is below the block of the first world is as it was -/
theorem SR.below {w wr w' : World} {R P : Nat} (h : SR w R P wr) (hb : Below w.heap.size wr w') : SR w R P w' :=
  ⟨by
    obtain ⟨A, n, cap, p, h1, h2, h3, h4⟩ := h.1
    have hs := h.2.1.size
    have hR := h.2.2
    refine ⟨A, n, cap, p, (hb.block R (by omega)).trans h1, h2, h3, fun h0 => ?_⟩
    obtain ⟨b, off, e, hbR, hbl, hc⟩ := h4 h0
    refine ⟨b, off, e, hbR, Nat.lt_of_lt_of_le hbl hb.size, fun i hi => ?_⟩
    obtain ⟨v, hv, hcv⟩ := hc i hi
    exact ⟨v, hv, (World.cell?_of_block (a := ⟨b, off + i, none⟩) (hb.block b (by omega))).trans hcv⟩,
   ⟨hb.os.trans h.2.1.os, hb.tape.trans h.2.1.tape, hb.output.trans h.2.1.output, Nat.le_trans h.2.1.size hb.size, fun i hi hne => (hb.block i hi).trans (h.2.1.block i hi hne)⟩, h.2.2⟩

theorem SR.size {w wr : World} {R P : Nat} (h : SR w R P wr) : w.heap.size ≤ wr.heap.size := h.2.1.size

theorem SR.start' {w wr : World} {R P : Nat} (h : SR w R P wr) : SR wr R P wr := SR.start h.1

/-- what is not the reader, and was there, stays -/
theorem SR.block {w wr : World} {R P g : Nat} (h : SR w R P wr) (hg : g < w.heap.size) (hne : g ≠ R) : wr.heap[g]? = w.heap[g]? :=
  h.2.1.block g hg (fun e => hne (by injection e))

end Go.Proofs.Yteefbkfhgmbcbaa
