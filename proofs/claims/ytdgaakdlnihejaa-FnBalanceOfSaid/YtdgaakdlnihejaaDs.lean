/- What is drawn for chapter 3: a quote and a stake. Conditions: a row of bytes that came in. -/
import Derived.Test.YtdgaakdlnihejaaDr
namespace Go.Proofs.Ytdgaakdlnihejaa
open Go.RowKit
set_option linter.unusedVariables false

/-- a block of two cells: what the walk wants to know of it -/
theorem Blk.two {w : World} {g : Nat} {t : TypeId} {x y : Value} (h : Blk w g t #[x, y]) :
    w.cell? ⟨g, 0, none⟩ = some x ∧ w.cell? ⟨g, 1, none⟩ = some y ∧ w.frozen? ⟨g, 0, none⟩ = false ∧ w.frozen? ⟨g, 1, none⟩ = false := ⟨h.cell 0, h.cell 1, h.frozen 0, h.frozen 1⟩

theorem Blk.alloc {w : World} {g : Nat} {t : TypeId} {cs : Array Value} (h : Blk w g t cs) (o : Obj) : Blk (w.alloc o) g t cs := h.more (Below.heap_alloc w o g h.lt)

theorem Blk.set_far {w : World} {g b k : Nat} {t : TypeId} {cs : Array Value} (h : Blk w g t cs) (u : Value) (hne : g ≠ b) : Blk (w.setCell ⟨b, k, none⟩ u) g t cs :=
  h.more (Below.heap_setCell w ⟨b, k, none⟩ u g hne)

/-- where the last region of l20Staked begins: the reader, the result's block, the quote's block -/
def StRel (w : World) (R P g : Nat) (q : Qt) (wr : World) : Prop := DR w R P wr ∧ Blk wr w.heap.size 24 #[.int .i64 0, .int .i64 0] ∧ Blk wr g 24 #[.int .i64 q.1, .int .i64 q.2] ∧ g ≠ R ∧ w.heap.size ≠ R ∧ w.heap.size < g

theorem StRel.picked {w wr w' : World} {R P Q g : Nat} {q : Qt} (h : StRel w R P g q wr) (k : Picked R Q wr w') : StRel w R Q g q w' := by
  obtain ⟨h1, h2, h3, h4, h5, h6⟩ := h
  exact ⟨h1.picked k, h2.picked k h5, h3.picked k h4, h4, h5, h6⟩

theorem StRel.drew {w wr : World} {R P g : Nat} {q : Qt} (h : StRel w R P g q wr) : StRel w R P g q wr.drew := ⟨h.1.drew, h.2⟩

theorem StRel.alloc {w wr : World} {R P g : Nat} {q : Qt} (h : StRel w R P g q wr) (o : Obj) : StRel w R P g q (wr.alloc o) :=
  ⟨h.1.alloc o, h.2.1.alloc o, h.2.2.1.alloc o, h.2.2.2⟩

/-- another price -/
theorem StRel.price {w wr : World} {R P g : Nat} {q : Qt} (h : StRel w R P g q wr) (x : Int) : StRel w R P g (q.1, x) (wr.setCell ⟨g, 1, none⟩ (.int .i64 x)) := by
  obtain ⟨h1, h2, h3, h4, h5, h6⟩ := h
  exact ⟨h1.setCell (by omega) _, h2.set_far _ (by omega), h3.set_ 1 _, h4, h5, h6⟩

theorem StRel.writes {w wr : World} {R P g : Nat} {q : Qt} (h : StRel w R P g q wr) : wr.frozen? ⟨g, 1, none⟩ = false ∧ wr.cell? ⟨g, 1, none⟩ = some (.int .i64 q.2) := ⟨h.2.2.1.frozen 1, h.2.2.1.cell 1⟩

/-- what the walk wants to know at each step -/
theorem StRel.cells {w wr : World} {R P g : Nat} {q : Qt} (h : StRel w R P g q wr) :
    (wr.cell? ⟨g, 0, none⟩ = some (.int .i64 q.1) ∧ wr.cell? ⟨g, 1, none⟩ = some (.int .i64 q.2)) ∧ wr.cell? ⟨w.heap.size, 0, none⟩ = some (.int .i64 0) ∧ wr.cell? ⟨w.heap.size, 1, none⟩ = some (.int .i64 0) ∧ wr.frozen? ⟨w.heap.size, 0, none⟩ = false ∧ wr.frozen? ⟨w.heap.size, 1, none⟩ = false :=
  ⟨⟨h.2.2.1.cell 0, h.2.2.1.cell 1⟩, h.2.1.cell 0, h.2.1.cell 1, h.2.1.frozen 0, h.2.1.frozen 1⟩

/-- the end: the quote is laid into the result -/
theorem StRel.fin {w wr : World} {R P g : Nat} {q : Qt} (h : StRel w R P g q wr) :
    (((wr.setCell ⟨w.heap.size, 0, none⟩ (.int .i64 q.1)).setCell ⟨w.heap.size, 1, none⟩ (.int .i64 q.2)).cell? ⟨w.heap.size, 0, none⟩ = some (.int .i64 q.1)) ∧
    (((wr.setCell ⟨w.heap.size, 0, none⟩ (.int .i64 q.1)).setCell ⟨w.heap.size, 1, none⟩ (.int .i64 q.2)).cell? ⟨w.heap.size, 1, none⟩ = some (.int .i64 q.2)) ∧
    DR w R P ((wr.setCell ⟨w.heap.size, 0, none⟩ (.int .i64 q.1)).setCell ⟨w.heap.size, 1, none⟩ (.int .i64 q.2)) := by
  have BB := (h.2.1.set_ 0 (.int .i64 q.1)).set_ 1 (.int .i64 q.2)
  exact ⟨BB.cell 0, BB.cell 1, (h.1.setCell (Nat.le_refl _) _).setCell (Nat.le_refl _) _⟩

set_option maxHeartbeats 8000000 in
theorem l20Staked_any (w : World) (R P : Nat) (hP : P ≤ 10000) (h : Rd w R P) :
    Calls Try.prog 53 #[.pointer (some ⟨R, 0, none⟩)] w (StakedR w R (P + 10)) := by
  have hR := h.lt
  have D0 := Lib.hid ((DR.start h).alloc (.cells #[.int .i64 0, .int .i64 0] 24))
  have B0 := Lib.hid (blk_alloc w #[.int .i64 0, .int .i64 0] 24)
  have hne : w.heap.size ≠ R := by omega
  have HNE := Lib.hid hne
  clear h hne
  go_enter Try.func53, Try.ntmps53
  go_wp2_with fail
  refine (pick_any _ R P _ (by omega) D0.out.1).mono ?_
  rintro e w2 ⟨v1, rfl, ⟨p1, p2, -⟩, k1⟩
  have p2 := p2 (by decide)
  have D2 := Lib.hid (D0.out.picked k1)
  have B2 := Lib.hid (B0.out.picked k1 HNE.out)
  clear k1
  go_wp2_with fail
  refine (l20Quote_any _ R (P + 1) _ (by omega) D2.out.1 (by omega) (by omega)).mono ?_
  rintro e w3 ⟨⟨e, p⟩, rfl, k1⟩
  unfold qV
  have D3 := Lib.hid (D2.out.trans k1)
  have B3 := Lib.hid (B2.out.dr k1 HNE.out)
  have hz3 := D3.out.size
  have hz2 : w.heap.size < w3.heap.size := B3.out.lt
  clear k1
  have S4 : Hid (StRel w R (P + 3) w3.heap.size (e, p) (w3.alloc (.cells #[.int .i64 e, .int .i64 p] 24))) := Lib.hid ⟨D3.out.alloc _, B3.out.alloc _, blk_alloc w3 _ _, by have := D3.out.2.2; omega, HNE.out, by omega⟩
  clear D2 B2 D3 B3 D0 B0
  go_wp2_with fail
  refine (odd_any _ R (P + 3) _ (by decide) (by decide) (by omega) S4.out.1.1).mono ?_
  rintro e' w5 ⟨b, rfl, k1⟩
  have S5 := Lib.hid (S4.out.picked k1)
  clear k1 S4
  cases b
  · have SA := Lib.hid S5.out.drew
    obtain ⟨⟨hg0, hg1⟩, hc0, hc1, hf0, hf1⟩ := S5.out.cells
    go_wp2_with fail
    go_region_with (go_at_call 45; first
      | (refine (pick_any _ R (P + 5) _ (by omega) SB.out.1.1).mono ?_; rintro e6 w7 ⟨v7, rfl, ⟨p7, p8, -⟩, k1⟩; have p8 := p8 (by decide); have SC := Lib.hid (SB.out.picked k1); clear k1; obtain ⟨⟨ig0, ig1⟩, ic0, ic1, if0, if1⟩ := SC.out.cells)
      | (refine (pick_any _ R (P + 4) _ (by omega) SA.out.1.1).mono ?_; rintro e6 w6 ⟨v6, rfl, ⟨p5, p6, -⟩, k1⟩; have p6 := p6 (by decide); have SB := Lib.hid (SA.out.picked k1); clear k1; obtain ⟨⟨jg0, jg1⟩, jc0, jc1, jf0, jf1⟩ := SB.out.cells))
    all_goals
      obtain ⟨hr0, hr1, hd⟩ := SC.out.fin
      go_wp2_with fail
      refine bodyPost_ret (v := .tuple #[.int .i64 (1 + v1), .agg #[.int .i64 e, .int .i64 p], .int .i64 _]) (by simp [results, Try.results53, go_sem, hr0, hr1]; try rfl) rfl ?_
      exact ⟨_, (e, p), _, rfl, hd.mono (by omega)⟩
  · have S6 := Lib.hid (S5.out.alloc (.cells #[.int .i64 (-1), .int .i64 7] 3))
    have HB6 := Lib.hid (blk_alloc w5 #[.int .i64 (-1), .int .i64 7] 3)
    have HNB : Hid (w5.heap.size ≠ R) := Lib.hid (by have := S5.out.1.2.2; have := S5.out.1.size; omega)
    clear S5
    go_wp2_with fail
    refine (pick_any _ R (P + 4) _ (by omega) S6.out.1.1).mono ?_
    rintro e' w7 ⟨v2, rfl, ⟨p3, p4, -⟩, k1⟩
    have p4 := p4 (by decide)
    have S7 := Lib.hid (S6.out.picked k1)
    have hb0 : w7.cell? ⟨w5.heap.size, 0, none⟩ = some (.int .i64 (-1)) := (HB6.out.picked k1 HNB.out).cell 0
    have hb1 : w7.cell? ⟨w5.heap.size, 1, none⟩ = some (.int .i64 7) := (HB6.out.picked k1 HNB.out).cell 1
    clear k1 S6 HB6
    obtain ⟨hw0, hw1⟩ := S7.out.writes
    obtain rfl | rfl : v2 = 0 ∨ v2 = 1 := by omega
    · have S8 := Lib.hid (S7.out.price (-1))
      go_wp2_with fail
      generalize w7.setCell ⟨w3.heap.size, 1, none⟩ (.int .i64 (-1)) = w8 at S8 ⊢
      clear hb0 hb1 hw0 hw1 S7
      have SA := Lib.hid S8.out.drew
      obtain ⟨⟨hg0, hg1⟩, hc0, hc1, hf0, hf1⟩ := S8.out.cells
      go_region_with (go_at_call 45; first
        | (refine (pick_any _ R (P + 6) _ (by omega) SB.out.1.1).mono ?_; rintro e6 w10 ⟨v7, rfl, ⟨p7, p8, -⟩, k1⟩; have p8 := p8 (by decide); have SC := Lib.hid (SB.out.picked k1); clear k1; obtain ⟨⟨ig0, ig1⟩, ic0, ic1, if0, if1⟩ := SC.out.cells)
        | (refine (pick_any _ R (P + 5) _ (by omega) SA.out.1.1).mono ?_; rintro e6 w9 ⟨v6, rfl, ⟨p5, p6, -⟩, k1⟩; have p6 := p6 (by decide); have SB := Lib.hid (SA.out.picked k1); clear k1; obtain ⟨⟨jg0, jg1⟩, jc0, jc1, jf0, jf1⟩ := SB.out.cells))
      all_goals
        obtain ⟨hr0, hr1, hd⟩ := SC.out.fin
        go_wp2_with fail
        refine bodyPost_ret (v := .tuple #[.int .i64 (1 + v1), .agg #[.int .i64 e, .int .i64 (-1)], .int .i64 _]) (by simp [results, Try.results53, go_sem, hr0, hr1]; try rfl) rfl ?_
        exact ⟨_, (e, (-1)), _, rfl, hd.mono (by omega)⟩
    · have S8 := Lib.hid (S7.out.price 7)
      go_wp2_with fail
      generalize w7.setCell ⟨w3.heap.size, 1, none⟩ (.int .i64 7) = w8 at S8 ⊢
      clear hb0 hb1 hw0 hw1 S7
      have SA := Lib.hid S8.out.drew
      obtain ⟨⟨hg0, hg1⟩, hc0, hc1, hf0, hf1⟩ := S8.out.cells
      go_region_with (go_at_call 45; first
        | (refine (pick_any _ R (P + 6) _ (by omega) SB.out.1.1).mono ?_; rintro e6 w10 ⟨v7, rfl, ⟨p7, p8, -⟩, k1⟩; have p8 := p8 (by decide); have SC := Lib.hid (SB.out.picked k1); clear k1; obtain ⟨⟨ig0, ig1⟩, ic0, ic1, if0, if1⟩ := SC.out.cells)
        | (refine (pick_any _ R (P + 5) _ (by omega) SA.out.1.1).mono ?_; rintro e6 w9 ⟨v6, rfl, ⟨p5, p6, -⟩, k1⟩; have p6 := p6 (by decide); have SB := Lib.hid (SA.out.picked k1); clear k1; obtain ⟨⟨jg0, jg1⟩, jc0, jc1, jf0, jf1⟩ := SB.out.cells))
      all_goals
        obtain ⟨hr0, hr1, hd⟩ := SC.out.fin
        go_wp2_with fail
        refine bodyPost_ret (v := .tuple #[.int .i64 (1 + v1), .agg #[.int .i64 e, .int .i64 7], .int .i64 _]) (by simp [results, Try.results53, go_sem, hr0, hr1]; try rfl) rfl ?_
        exact ⟨_, (e, 7), _, rfl, hd.mono (by omega)⟩

end Go.Proofs.Ytdgaakdlnihejaa
