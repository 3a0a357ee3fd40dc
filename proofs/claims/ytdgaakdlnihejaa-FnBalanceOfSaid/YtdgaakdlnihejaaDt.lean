/- What is drawn for the laws of GainOf and OtherQuote. Conditions: a row of bytes that came in. -/
import Derived.Test.YtdgaakdlnihejaaDs
namespace Go.Proofs.Ytdgaakdlnihejaa
open Go.RowKit
set_option linter.unusedVariables false

theorem Blk.fin {w : World} {g : Nat} {t : TypeId} {x y : Value} (h : Blk w g t #[x, y]) (u v : Value) :
    ((w.setCell ⟨g, 0, none⟩ u).setCell ⟨g, 1, none⟩ v).cell? ⟨g, 0, none⟩ = some u ∧ ((w.setCell ⟨g, 0, none⟩ u).setCell ⟨g, 1, none⟩ v).cell? ⟨g, 1, none⟩ = some v := by
  have BB := (h.set_ 0 u).set_ 1 v
  exact ⟨BB.cell 0, BB.cell 1⟩

/-- a number, a quote and a stake that were drawn -/
def DrawNQS (w : World) (e : Ending) (w' : World) : Prop := ∃ (x : Int) (q : Qt) (s : Int), e = .returned (.tuple #[.int .i64 x, qV q, .int .i64 s]) ∧ Below w.heap.size w w'

set_option maxHeartbeats 2000000 in
theorem drawGainOf_any (w : World) (a : Option Addr) (len cap : Nat) (zs : List Int) (h : IsRowC .u8 w a len cap zs) :
    Calls Try.prog 21 #[.slice a len cap] w (DrawNQS w) := by
  have B0 := Lib.hid (blk_alloc w #[.int .i64 0, .int .i64 0] 24)
  go_enter Try.func21, Try.ntmps21
  go_wp2_with fail
  refine (open_at _ (w.heap.size + 1) a len cap zs (by simp) (h.alloc _)).mono ?_
  rintro e w1 ⟨rfl, d1, b1, s1⟩
  have B1 := Lib.hid (B0.out.more (b1.block w.heap.size (by simp)))
  have HB1 : Hid (Below w.heap.size w w1) := Lib.hid (below_step ((Below.refl _ _).alloc (Nat.le_refl _) _) b1 (by simp))
  have D1 := Lib.hid d1
  have HNE : Hid (w.heap.size ≠ w.heap.size + 1) := Lib.hid (by omega)
  clear b1 d1 h B0
  go_wp2_with fail
  refine (l20Staked_any _ (w.heap.size + 1) 0 (by decide) D1.out.1).mono ?_
  rintro e w2 ⟨x, ⟨e1, p1⟩, s, rfl, d2⟩
  unfold qV
  have HB2 := Lib.hid (below_dr HB1.out d2 (by omega))
  have B2 := Lib.hid (B1.out.dr d2 HNE.out)
  clear d2
  obtain ⟨hc0, hc1, hf0, hf1⟩ := B2.out.two
  have HF := Lib.hid (B2.out.fin (.int .i64 e1) (.int .i64 p1))
  go_wp2_with fail
  obtain ⟨hr0, hr1⟩ := HF.out
  refine bodyPost_ret (v := .tuple #[.int .i64 x, .agg #[.int .i64 e1, .int .i64 p1], .int .i64 s]) (by simp [results, Try.results21, go_sem, hr0, hr1]) rfl ?_
  exact ⟨x, (e1, p1), s, rfl, (HB2.out.setCell (Nat.le_refl _) _).setCell (Nat.le_refl _) _⟩

set_option maxHeartbeats 4000000 in
theorem drawOtherQuote_any (w : World) (a : Option Addr) (len cap : Nat) (zs : List Int) (h : IsRowC .u8 w a len cap zs) :
    Calls Try.prog 27 #[.slice a len cap] w (DrawNQ w) := by
  have B0 := Lib.hid (blk_alloc w #[.int .i64 0, .int .i64 0] 24)
  go_enter Try.func27, Try.ntmps27
  go_wp2_with fail
  refine (open_at _ (w.heap.size + 1) a len cap zs (by simp) (h.alloc _)).mono ?_
  rintro e w1 ⟨rfl, d1, b1, s1⟩
  have B1 := Lib.hid (B0.out.more (b1.block w.heap.size (by simp)))
  have HB1 : Hid (Below w.heap.size w w1) := Lib.hid (below_step ((Below.refl _ _).alloc (Nat.le_refl _) _) b1 (by simp))
  have D1 := Lib.hid d1
  have HNE : Hid (w.heap.size ≠ w.heap.size + 1) := Lib.hid (by omega)
  clear b1 d1 h B0
  go_wp2_with fail
  refine (l20Staked_any _ (w.heap.size + 1) 0 (by decide) D1.out.1).mono ?_
  rintro e w2 ⟨x, ⟨e1, p1⟩, s, rfl, d2⟩
  unfold qV
  have HB2 := Lib.hid ((below_dr HB1.out d2 (by omega)).alloc (below_dr HB1.out d2 (by omega)).size (.cells #[.int .i64 e1, .int .i64 p1] 24))
  have B2 := Lib.hid ((B1.out.dr d2 HNE.out).alloc (.cells #[.int .i64 e1, .int .i64 p1] 24))
  clear d2
  obtain ⟨hc0, hc1, hf0, hf1⟩ := B2.out.two
  have HF := Lib.hid (B2.out.fin (.int .i64 e1) (.int .i64 p1))
  go_wp2_with fail
  go_region
  all_goals
    go_wp2_with fail
    obtain ⟨hr0, hr1⟩ := HF.out
    refine bodyPost_ret (v := .tuple #[.int .i64 x, .agg #[.int .i64 e1, .int .i64 p1]]) (by simp [results, Try.results27, go_sem, hr0, hr1]) rfl ?_
    exact ⟨x, (e1, p1), rfl, (HB2.out.drew.setCell (Nat.le_refl _) _).setCell (Nat.le_refl _) _⟩

end Go.Proofs.Ytdgaakdlnihejaa
