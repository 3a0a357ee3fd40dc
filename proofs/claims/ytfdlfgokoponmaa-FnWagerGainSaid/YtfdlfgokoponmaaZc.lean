/- Contracts of spec's WagerOk, WagerText, WagerGain. Conditions: a row that reads. -/
import Derived.Test.YtfdlfgokoponmaaZb
import Derived.BigQuiet
namespace Go.Proofs.Ytfdlfgokoponmaa
open Go.RowKit
set_option linter.unusedVariables false

/-- a wager as a value -/
def wV (s : Int) (v : Value) (p : Int) : Value := .agg #[.int .i64 s, v, .int .i64 p]

/-- the wager's block, as long as it stands -/
theorem wag_cells (w : World) (s : Int) (v : Value) (p : Int) (wr : World) (h : Below (w.alloc (.cells #[.int .i64 s, v, .int .i64 p] 25)).heap.size (w.alloc (.cells #[.int .i64 s, v, .int .i64 p] 25)) wr) :
    wr.cell? ⟨w.heap.size, 0, none⟩ = some (.int .i64 s) ∧ wr.cell? ⟨w.heap.size, 1, none⟩ = some v ∧ wr.cell? ⟨w.heap.size, 2, none⟩ = some (.int .i64 p) := by
  have h1 : Blk (w.alloc (.cells #[.int .i64 s, v, .int .i64 p] 25)) w.heap.size 25 #[.int .i64 s, v, .int .i64 p] := heap_alloc_new w _
  have h2 : Blk wr w.heap.size 25 #[.int .i64 s, v, .int .i64 p] := (h.block w.heap.size (by simp)).trans h1
  exact ⟨h2.cell 0, h2.cell 1, h2.cell 2⟩

set_option maxHeartbeats 4000000 in
theorem specWagerOk_any (w : World) (s : Int) (v : Value) (t : List Mk) (p : Int) (hv : QRd w v t) :
    Calls Try.prog 10 #[.agg #[.int .i64 s, v, .int .i64 p]] w (BoolPost (wgB s t p) w) := by
  obtain ⟨A, c, rfl, hl, hm⟩ := hv.form
  have HC := Lib.hid (wag_cells w s (.slice A t.length c) p)
  have HB : Hid (Below w.heap.size w (w.alloc (.cells #[.int .i64 s, .slice A t.length c, .int .i64 p] 25))) := Lib.hid ((Below.refl _ _).alloc (Nat.le_refl _) _)
  have HV : Hid (∀ wr, Below (w.alloc (.cells #[.int .i64 s, .slice A t.length c, .int .i64 p] 25)).heap.size (w.alloc (.cells #[.int .i64 s, .slice A t.length c, .int .i64 p] 25)) wr → QRd wr (.slice A t.length c) t) := Lib.hid (fun wr hb => (GRd.keep hv (SameAt.of_below ((Below.refl _ w).alloc (Nat.le_refl _) _))).keep (SameAt.of_below hb))
  clear hv hl hm
  obtain ⟨c0, c1, c2⟩ := HC.out _ (Below.refl _ _)
  go_enter Try.func10, Try.ntmps10
  rcases Bool.eq_false_or_eq_true (inB s (-9) 9) with h1 | h1
  · rcases Bool.eq_false_or_eq_true (tmB t) with h2 | h2
    · go_wp2_with fail
      refine (l1In_any _ _ _ _).mono ?_
      rintro r w' ⟨rfl, rfl⟩
      rw [h1]
      go_wp2_with fail
      refine (specTermOk_any _ _ t (HV.out _ (Below.refl _ _))).mono ?_
      rintro r w3 ⟨rfl, b3⟩
      rw [h2]
      obtain ⟨d0, d1, d2⟩ := HC.out _ b3
      have HB3 := Lib.hid (below_step HB.out b3 HB.out.size)
      clear b3
      go_wp2_with fail
      refine (l1In_any _ _ _ _).mono ?_
      rintro r w' ⟨rfl, rfl⟩
      go_wp2_with fail
      go_ret
      exact ⟨ret_bool (by rw [wgB, h1, h2]; rfl), HB3.out⟩
    · go_wp2_with fail
      refine (l1In_any _ _ _ _).mono ?_
      rintro r w' ⟨rfl, rfl⟩
      rw [h1]
      go_wp2_with fail
      refine (specTermOk_any _ _ t (HV.out _ (Below.refl _ _))).mono ?_
      rintro r w3 ⟨rfl, b3⟩
      rw [h2]
      have HB3 := Lib.hid (below_step HB.out b3 HB.out.size)
      clear b3
      go_wp2_with fail
      go_ret
      exact ⟨ret_bool (by rw [wgB, h1, h2]; rfl), HB3.out⟩
  · go_wp2_with fail
    refine (l1In_any _ _ _ _).mono ?_
    rintro r w' ⟨rfl, rfl⟩
    rw [h1]
    go_wp2_with fail
    go_ret
    exact ⟨ret_bool (by rw [wgB, h1]; rfl), HB.out⟩

end Go.Proofs.Ytfdlfgokoponmaa
