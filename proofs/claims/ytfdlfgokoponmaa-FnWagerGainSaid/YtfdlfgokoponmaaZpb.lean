/- The program's WagerGain. Conditions: a row that reads as a list of marks. (gen_zp.py) -/
import Derived.Test.YtfdlfgokoponmaaZpa
import Derived.Test.YtfdlfgokoponmaaZe
namespace Go.Proofs.Ytfdlfgokoponmaa
open Go.RowKit
set_option linter.unusedVariables false

theorem gain_fit {e : Nat} (he : e < 16) {p s : Int} (hp : 0 ≤ p ∧ p ≤ 6) (hs : -9 ≤ s ∧ s ≤ 9) : gainB 4 ((e : Int), p) s = true := by
  show (qokB 4 ((e : Int), p) && stB s) = true
  rw [Bool.and_eq_true]
  refine ⟨?_, (inB_iff _ _ _).2 hs⟩
  show (evB 4 (e : Int) && inB p 0 6) = true
  rw [Bool.and_eq_true, evB_iff]
  exact ⟨by simp [allI]; omega, (inB_iff _ _ _).2 hp⟩

set_option maxRecDepth 100000 in
set_option maxHeartbeats 4000000 in
theorem implWagerGain_any (w : World) (s : Int) (v : Value) (t : List Mk) (p : Int) (hv : QRd w v t) :
    Calls Try.prog 13 #[.agg #[.int .i64 s, v, .int .i64 p]] w (NewInts (wgR s t p) w) := by
  obtain ⟨A, c, rfl, hl, hm⟩ := hv.form
  have HC := Lib.hid (wag_cells w s (.slice A t.length c) p)
  have HB : Hid (Below w.heap.size w (w.alloc (.cells #[.int .i64 s, .slice A t.length c, .int .i64 p] 25))) := Lib.hid ((Below.refl _ _).alloc (Nat.le_refl _) _)
  have HV : Hid (∀ wr, Below (w.alloc (.cells #[.int .i64 s, .slice A t.length c, .int .i64 p] 25)).heap.size (w.alloc (.cells #[.int .i64 s, .slice A t.length c, .int .i64 p] 25)) wr → QRd wr (.slice A t.length c) t) := Lib.hid (fun wr hb => (GRd.keep hv (SameAt.of_below ((Below.refl _ w).alloc (Nat.le_refl _) _))).keep (SameAt.of_below hb))
  clear hv hl hm
  obtain ⟨c0, c1, c2⟩ := HC.out _ (Below.refl _ _)
  rcases Bool.eq_false_or_eq_true (wgB s t p) with h | h
  · obtain ⟨hs9, ht, hp⟩ := (wgB_iff _ _ _).1 h
    obtain ⟨T, rfl, h40⟩ := tm_tree ht
    have HT : Hid (wgR s (encT T) p = gainL 4 (((evT T : Nat) : Int), p) s) := Lib.hid (by rw [wgR_yes h, evI_tree h40])
    have HG := Lib.hid (gain_fit (evT_16 T) hp hs9)
    have HEV := Lib.hid (evI_tree h40)
    clear ht hp hs9
    go_enter Try.func13, Try.ntmps13
    go_wp2_with fail
    generalize w.alloc (.cells #[.int .i64 s, .slice A (encT T).length c, .int .i64 p] 25) = wb at HC HB HV c0 c1 c2 ⊢
    refine (implWagerOk_any wb s _ (encT T) p (HV.out _ (Below.refl _ _))).mono ?_
    rintro r w1 ⟨rfl, b1⟩
    rw [h]
    have HC1 : Hid (∀ wr, Below w1.heap.size w1 wr → wr.cell? ⟨w.heap.size, 0, none⟩ = some (.int .i64 s) ∧ wr.cell? ⟨w.heap.size, 1, none⟩ = some (.slice A (encT T).length c) ∧ wr.cell? ⟨w.heap.size, 2, none⟩ = some (.int .i64 p)) := Lib.hid (fun wr hb => HC.out wr (below_step b1 hb b1.size))
    have HV1 : Hid (∀ wr, Below w1.heap.size w1 wr → QRd wr (.slice A (encT T).length c) (encT T)) := Lib.hid (fun wr hb => HV.out wr (below_step b1 hb b1.size))
    have HB1 := Lib.hid (below_step HB.out b1 HB.out.size)
    clear b1 HC HV HB h c0 c1 c2
    have HC := HC1
    have HV := HV1
    have HB := HB1
    clear HC1 HV1 HB1
    go_wp2_with fail
    have k0 : Below w1.heap.size w1 w1.drew := (Below.refl _ _).drew
    refine wp_region_held_drew (S := fun w' => Below w1.heap.size w1 w') (by kernel_rfl) k0 (fun hHeld => ?_)
    refine take_in (i := 0) (v := ?_) rfl (by kernel_rfl) (fun _ _ _ h => h) rfl ?_ hHeld ?_
    rotate_left
    · intro w hSw; go_simp; all_goals with_reducible rfl
    try simp only [Act.put, List.setIfInBounds_toArray, List.set_cons_zero, List.set_cons_succ]
    refine take_in (i := 1) (v := ?_) rfl (by kernel_rfl) (fun _ _ _ h => h) rfl ?_ hHeld ?_
    rotate_left
    · intro w hSw; obtain ⟨d0, d1, d2⟩ := HC.out w hSw; go_simp; all_goals with_reducible rfl
    try simp only [Act.put, List.setIfInBounds_toArray, List.set_cons_zero, List.set_cons_succ]
    refine take_in (i := 3) (v := ?_) rfl (by kernel_rfl) (fun _ _ _ h => h) rfl ?_ hHeld ?_
    rotate_left
    · intro w hSw; go_simp; all_goals with_reducible rfl
    try simp only [Act.put, List.setIfInBounds_toArray, List.set_cons_zero, List.set_cons_succ]
    refine take_in (i := 4) (v := ?_) rfl (by kernel_rfl) (fun _ _ _ h => h) rfl ?_ hHeld ?_
    rotate_left
    · intro w hSw; obtain ⟨d0, d1, d2⟩ := HC.out w hSw; go_simp; all_goals with_reducible rfl
    try simp only [Act.put, List.setIfInBounds_toArray, List.set_cons_zero, List.set_cons_succ]
    refine take_in (i := 6) (v := ?_) rfl (by kernel_rfl) (fun _ _ _ h => h) rfl ?_ hHeld ?_
    rotate_left
    · intro w hSw; go_simp; all_goals with_reducible rfl
    try simp only [Act.put, List.setIfInBounds_toArray, List.set_cons_zero, List.set_cons_succ]
    refine take_in (i := 7) (v := ?_) rfl (by kernel_rfl) (fun _ _ _ h => h) rfl ?_ hHeld ?_
    rotate_left
    · intro w hSw; obtain ⟨d0, d1, d2⟩ := HC.out w hSw; go_simp; all_goals with_reducible rfl
    try simp only [Act.put, List.setIfInBounds_toArray, List.set_cons_zero, List.set_cons_succ]
    refine ready_one (i := 2) rfl (by kernel_rfl) (fun K hK => ?_)
    go_simp
    go_at_call 17
    refine (implEventOfTerm_any _ _ _ (HV.out _ k0)).mono ?_
    rintro e x1 ⟨rfl, b1⟩
    rw [HEV.out]
    have k1 := below_step k0 b1 k0.size
    refine hK.out _ x1 k1 (fun hHeld => ?_)
    clear hK K b1
    try simp only [Act.put, List.setIfInBounds_toArray, List.set_cons_zero, List.set_cons_succ]
    refine take_in (i := 5) (v := ?_) rfl (by kernel_rfl) (fun _ _ _ h => h) rfl ?_ hHeld ?_
    rotate_left
    · intro w hSw; go_simp; all_goals with_reducible rfl
    try simp only [Act.put, List.setIfInBounds_toArray, List.set_cons_zero, List.set_cons_succ]
    refine ready_one (i := 8) rfl (by kernel_rfl) (fun K hK => ?_)
    go_simp
    go_at_call 33
    refine (gainRow_any 4 (((evT T : Nat) : Int), p) s HG.out x1).mono ?_
    rintro e x2 ⟨vg, rfl, o2, b2⟩
    have k2 := below_step k1 b2 k1.size
    refine hK.out _ x2 k2 (fun hHeld => ?_)
    clear hK K b2
    try simp only [Act.put, List.setIfInBounds_toArray, List.set_cons_zero, List.set_cons_succ]
    refine take_in (i := 9) (v := ?_) rfl (by kernel_rfl) (fun _ _ _ h => h) rfl ?_ hHeld ?_
    rotate_left
    · intro w hSw; go_simp; all_goals with_reducible rfl
    try simp only [Act.put, List.setIfInBounds_toArray, List.set_cons_zero, List.set_cons_succ]
    refine wpAnyH_done (by kernel_rfl) ?_ _
    go_wp2_with fail
    go_ret
    exact ⟨_, rfl, by rw [HT.out]; exact o2.base (Nat.le_trans HB.out.size k1.size), below_step HB.out k2 HB.out.size⟩
  · have HN := Lib.hid (wgR_no h)
    go_enter Try.func13, Try.ntmps13
    go_wp2_with fail
    refine (implWagerOk_any _ s _ t p (HV.out _ (Below.refl _ _))).mono ?_
    rintro r w1 ⟨rfl, b1⟩
    rw [h]
    have HB1 := Lib.hid (below_step HB.out b1 HB.out.size)
    clear b1
    go_wp2_with fail
    go_ret
    exact ⟨_, rfl, by rw [HN.out]; exact nil_own _ _, HB1.out⟩

end Go.Proofs.Ytfdlfgokoponmaa
