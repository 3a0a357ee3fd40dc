/- The program's WagerOk. Conditions: a row that reads as a list of marks. (gen_zp.py) -/
import Derived.Test.YtfdlfgokoponmaaDoorZd
import Derived.Test.YtfdlfgokoponmaaDoorXp
namespace Go.Proofs.YtfdlfgokoponmaaDoor
open Go.RowKit
set_option linter.unusedVariables false

set_option maxHeartbeats 400000 in
theorem priceOk9_any (x : Int) (W : World) :
    Calls Tryd.prog 30 #[.int .i64 x] W fun r W' => r = .returned (.bool (inB x (0) 6)) ∧ W = W' := by
  by_cases h1 : 0 ≤ x
  · by_cases h2 : x ≤ 6
    · go_enter Tryd.func30, Tryd.ntmps30
      go_wp2
      go_ret
      exact ⟨ret_bool (by rw [Eq.comm, inB_iff]; exact ⟨h1, h2⟩), rfl⟩
    · go_enter Tryd.func30, Tryd.ntmps30
      go_wp2
      go_ret
      exact ⟨ret_bool (by rw [Eq.comm, ← Bool.not_eq_true, inB_iff]; omega), rfl⟩
  · go_enter Tryd.func30, Tryd.ntmps30
    go_wp2
    go_ret
    exact ⟨ret_bool (by rw [Eq.comm, ← Bool.not_eq_true, inB_iff]; omega), rfl⟩

set_option maxHeartbeats 400000 in
theorem stakeOk9_any (x : Int) (W : World) :
    Calls Tryd.prog 28 #[.int .i64 x] W fun r W' => r = .returned (.bool (inB x (-9) 9)) ∧ W = W' := by
  by_cases h1 : -9 ≤ x
  · by_cases h2 : x ≤ 9
    · go_enter Tryd.func28, Tryd.ntmps28
      go_wp2
      go_ret
      exact ⟨ret_bool (by rw [Eq.comm, inB_iff]; exact ⟨h1, h2⟩), rfl⟩
    · go_enter Tryd.func28, Tryd.ntmps28
      go_wp2
      go_ret
      exact ⟨ret_bool (by rw [Eq.comm, ← Bool.not_eq_true, inB_iff]; omega), rfl⟩
  · go_enter Tryd.func28, Tryd.ntmps28
    go_wp2
    go_ret
    exact ⟨ret_bool (by rw [Eq.comm, ← Bool.not_eq_true, inB_iff]; omega), rfl⟩

set_option maxHeartbeats 4000000 in
theorem implWagerOk_any (w : World) (s : Int) (v : Value) (t : List Mk) (p : Int) (hv : QRd w v t) :
    Calls Tryd.prog 10 #[.agg #[.int .i64 s, v, .int .i64 p]] w (BoolPost (wgB s t p) w) := by
  obtain ⟨A, c, rfl, hl, hm⟩ := hv.form
  have HC := Lib.hid (wag_cells w s (.slice A t.length c) p)
  have HB : Hid (Below w.heap.size w (w.alloc (.cells #[.int .i64 s, .slice A t.length c, .int .i64 p] 25))) := Lib.hid ((Below.refl _ _).alloc (Nat.le_refl _) _)
  have HV : Hid (∀ wr, Below (w.alloc (.cells #[.int .i64 s, .slice A t.length c, .int .i64 p] 25)).heap.size (w.alloc (.cells #[.int .i64 s, .slice A t.length c, .int .i64 p] 25)) wr → QRd wr (.slice A t.length c) t) := Lib.hid (fun wr hb => (GRd.keep hv (SameAt.of_below ((Below.refl _ w).alloc (Nat.le_refl _) _))).keep (SameAt.of_below hb))
  clear hv hl hm
  obtain ⟨c0, c1, c2⟩ := HC.out _ (Below.refl _ _)
  go_enter Tryd.func10, Tryd.ntmps10
  rcases Bool.eq_false_or_eq_true (inB s (-9) 9) with h1 | h1
  · rcases Bool.eq_false_or_eq_true (tmB t) with h2 | h2
    · go_wp2_with fail
      refine (stakeOk9_any _ _).mono ?_
      rintro r w' ⟨rfl, rfl⟩
      rw [h1]
      go_wp2_with fail
      refine (implTermOk_any _ _ t (HV.out _ (Below.refl _ _))).mono ?_
      rintro r w3 ⟨rfl, b3⟩
      rw [h2]
      obtain ⟨d0, d1, d2⟩ := HC.out _ b3
      have HB3 := Lib.hid (below_step HB.out b3 HB.out.size)
      clear b3
      go_wp2_with fail
      refine (priceOk9_any _ _).mono ?_
      rintro r w' ⟨rfl, rfl⟩
      go_wp2_with fail
      go_ret
      exact ⟨ret_bool (by rw [wgB, h1, h2]; rfl), HB3.out⟩
    · go_wp2_with fail
      refine (stakeOk9_any _ _).mono ?_
      rintro r w' ⟨rfl, rfl⟩
      rw [h1]
      go_wp2_with fail
      refine (implTermOk_any _ _ t (HV.out _ (Below.refl _ _))).mono ?_
      rintro r w3 ⟨rfl, b3⟩
      rw [h2]
      have HB3 := Lib.hid (below_step HB.out b3 HB.out.size)
      clear b3
      go_wp2_with fail
      go_ret
      exact ⟨ret_bool (by rw [wgB, h1, h2]; rfl), HB3.out⟩
  · go_wp2_with fail
    refine (stakeOk9_any _ _).mono ?_
    rintro r w' ⟨rfl, rfl⟩
    rw [h1]
    go_wp2_with fail
    go_ret
    exact ⟨ret_bool (by rw [wgB, h1]; rfl), HB.out⟩

end Go.Proofs.YtfdlfgokoponmaaDoor
