/- What is drawn for chapter 3: a quote, a stake. Conditions: a row of bytes that came in. -/
import Derived.Test.YtdgaakdlnihejaaDq
namespace Go.Proofs.Ytdgaakdlnihejaa
open Go.RowKit
set_option linter.unusedVariables false

theorem IsRowC.alloc {k : IntKind} {w : World} {a : Option Addr} {len cap : Nat} {zs : List Int} (h : IsRowC k w a len cap zs) (o : Obj) : IsRowC k (w.alloc o) a len cap zs := by
  rcases h with h | ⟨x, rfl, hl, hm, hz, hcell, hwz⟩
  · exact .inl h
  · refine .inr ⟨x, rfl, hl, hm, hz, fun i hi => ?_, hwz⟩
    have hc := hcell i hi
    have hlt := World.block_lt_of_cell? w _ hc
    exact (World.cell?_of_block (Below.heap_alloc w o _ hlt)).trans hc

/-- the reader's opening, its block by another name -/
theorem open_at (w : World) (R : Nat) (a : Option Addr) (len cap : Nat) (zs : List Int) (hR : w.heap.size = R) (h : IsRowC .u8 w a len cap zs) :
    Calls Try.prog 44 #[.slice a len cap] w fun e w' => e = .returned (.pointer (some ⟨R, 0, none⟩)) ∧ DR w' R 0 w' ∧ Below w.heap.size w w' ∧ w'.heap.size = R + 1 := by
  subst hR
  refine (open_any w a len cap zs h).mono ?_
  rintro e w' ⟨rfl, ho⟩
  exact ⟨rfl, DR.start ho.rd, ho.below, ho.size⟩

theorem below_dr {B : Nat} {w w1 w2 : World} {R P : Nat} (h : Below B w w1) (k : DR w1 R P w2) (hB : B ≤ R) : Below B w w2 :=
  h.grown k.2.1 (by have := k.2.2; omega) (fun g hg => by injection hg with hg; omega)

/-- a number and a quote that were drawn -/
def DrawNQ (w : World) (e : Ending) (w' : World) : Prop := ∃ (x : Int) (q : Qt), e = .returned (.tuple #[.int .i64 x, qV q]) ∧ Below w.heap.size w w'

set_option maxHeartbeats 2000000 in
theorem drawQuoteOk_any (w : World) (a : Option Addr) (len cap : Nat) (zs : List Int) (h : IsRowC .u8 w a len cap zs) :
    Calls Try.prog 13 #[.slice a len cap] w (DrawNQ w) := by
  have B0 := Lib.hid (blk_alloc w #[.int .i64 0, .int .i64 0] 24)
  go_enter Try.func13, Try.ntmps13
  go_wp2_with fail
  refine (open_at _ (w.heap.size + 1) a len cap zs (by simp) (h.alloc _)).mono ?_
  rintro e w1 ⟨rfl, d1, b1, s1⟩
  have B1 := Lib.hid (B0.out.more (b1.block w.heap.size (by simp)))
  have HB1 : Hid (Below w.heap.size w w1) := Lib.hid (below_step ((Below.refl _ _).alloc (Nat.le_refl _) _) b1 (by simp))
  have D1 := Lib.hid d1
  have HNE : Hid (w.heap.size ≠ w.heap.size + 1) := Lib.hid (by omega)
  clear b1 d1 h B0
  go_wp2_with fail
  refine (pick_any _ (w.heap.size + 1) 0 _ (by decide) D1.out.1).mono ?_
  rintro e w2 ⟨x, rfl, -, k1⟩
  have D2 := Lib.hid (D1.out.picked k1)
  have B2 := Lib.hid (B1.out.picked k1 HNE.out)
  clear k1
  go_wp2_with fail
  refine (pick_any _ (w.heap.size + 1) 1 _ (by decide) D2.out.1).mono ?_
  rintro e w3 ⟨v1, rfl, -, k1⟩
  have D3 := Lib.hid (D2.out.picked k1)
  have B3 := Lib.hid (B2.out.picked k1 HNE.out)
  clear k1
  go_wp2_with fail
  refine (pick_any _ (w.heap.size + 1) 2 _ (by decide) D3.out.1).mono ?_
  rintro e w4 ⟨v2, rfl, ⟨p1, p2, -⟩, k1⟩
  have p2 := p2 (by decide)
  have D4 := Lib.hid (D3.out.picked k1)
  have B4 := Lib.hid (B3.out.picked k1 HNE.out)
  clear k1
  have hc0 : w4.cell? ⟨w.heap.size, 0, none⟩ = some (.int .i64 0) := B4.out.cell 0
  have hc1 : w4.cell? ⟨w.heap.size, 1, none⟩ = some (.int .i64 0) := B4.out.cell 1
  have hf0 : w4.frozen? ⟨w.heap.size, 0, none⟩ = false := B4.out.frozen 0
  have hf1 : w4.frozen? ⟨w.heap.size, 1, none⟩ = false := B4.out.frozen 1
  have BB := Lib.hid ((B4.out.set_ 0 (.int .i64 v1)).set_ 1 (.int .i64 (v2 - 1)))
  go_wp2_with fail
  have hr0 : ((w4.setCell ⟨w.heap.size, 0, none⟩ (.int .i64 v1)).setCell ⟨w.heap.size, 1, none⟩ (.int .i64 (v2 - 1))).cell? ⟨w.heap.size, 0, none⟩ = some (.int .i64 v1) := BB.out.cell 0
  have hr1 : ((w4.setCell ⟨w.heap.size, 0, none⟩ (.int .i64 v1)).setCell ⟨w.heap.size, 1, none⟩ (.int .i64 (v2 - 1))).cell? ⟨w.heap.size, 1, none⟩ = some (.int .i64 (v2 - 1)) := BB.out.cell 1
  refine bodyPost_ret (v := .tuple #[.int .i64 x, .agg #[.int .i64 v1, .int .i64 (v2 - 1)]]) (by simp [results, Try.results13, go_sem, hr0, hr1]) rfl ?_
  exact ⟨x, (v1, v2 - 1), rfl, ((below_dr HB1.out D4.out (by omega)).setCell (Nat.le_refl _) _).setCell (Nat.le_refl _) _⟩

/-- a number of worlds, a quote and a stake that were drawn -/
def StakedR (w : World) (R P : Nat) (e : Ending) (w' : World) : Prop := ∃ (x : Int) (q : Qt) (s : Int), e = .returned (.tuple #[.int .i64 x, qV q, .int .i64 s]) ∧ DR w R P w'

end Go.Proofs.Ytdgaakdlnihejaa
