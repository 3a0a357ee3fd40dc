/- Contracts of spec's WagerOk, WagerText, WagerGain. Conditions: a row that reads. -/
import Derived.Test.YtfdlfgokoponmaaDoorZb
import Derived.BigQuiet
namespace Go.Proofs.YtfdlfgokoponmaaDoor
open Go.RowKit
set_option linter.unusedVariables false

/-- a wager as a value -/
def wV (s : Int) (v : Value) (p : Int) : Value := .agg #[.int .i64 s, v, .int .i64 p]

/-- the wager's block, as long as it stands -/
theorem wag_cells (w : World) (s : Int) (v : Value) (p : Int) (wr : World) (h : Below (w.alloc (.cells #[.int .i64 s, v, .int .i64 p] 25)).heap.size (w.alloc (.cells #[.int .i64 s, v, .int .i64 p] 25)) wr) :
    wr.cell? ⟨w.heap.size, 0, none⟩ = some (.int .i64 s) ∧ wr.cell? ⟨w.heap.size, 1, none⟩ = some v ∧ wr.cell? ⟨w.heap.size, 2, none⟩ = some (.int .i64 p) := by
  have h1 : Blk (w.alloc (.cells #[.int .i64 s, v, .int .i64 p] 25)) w.heap.size 25 #[.int .i64 s, v, .int .i64 p] := heap_alloc_new w _
  have h2 : Blk wr w.heap.size 25 #[.int .i64 s, v, .int .i64 p] := (h.block w.heap.size (by simp)).trans h1
  exact ⟨h2.cell 0, h2.cell 1, h2.cell 2⟩

set_option maxHeartbeats 4000000 in
theorem specWagerOk_any (w : World) (s : Int) (v : Value) (t : List Mk) (p : Int) (hv : QRd w v t) :
    Calls Tryd.prog 25 #[.agg #[.int .i64 s, v, .int .i64 p]] w (BoolPost (wgB s t p) w) := by
  obtain ⟨A, c, rfl, hl, hm⟩ := hv.form
  have HC := Lib.hid (wag_cells w s (.slice A t.length c) p)
  have HB : Hid (Below w.heap.size w (w.alloc (.cells #[.int .i64 s, .slice A t.length c, .int .i64 p] 25))) := Lib.hid ((Below.refl _ _).alloc (Nat.le_refl _) _)
  have HV : Hid (∀ wr, Below (w.alloc (.cells #[.int .i64 s, .slice A t.length c, .int .i64 p] 25)).heap.size (w.alloc (.cells #[.int .i64 s, .slice A t.length c, .int .i64 p] 25)) wr → QRd wr (.slice A t.length c) t) := Lib.hid (fun wr hb => (GRd.keep hv (SameAt.of_below ((Below.refl _ w).alloc (Nat.le_refl _) _))).keep (SameAt.of_below hb))
  clear hv hl hm
  obtain ⟨c0, c1, c2⟩ := HC.out _ (Below.refl _ _)
  go_enter Tryd.func25, Tryd.ntmps25
  rcases Bool.eq_false_or_eq_true (inB s (-9) 9) with h1 | h1
  · rcases Bool.eq_false_or_eq_true (tmB t) with h2 | h2
    · go_wp2_with fail
      refine (l1In_any _ _ _ _).mono ?_
      rintro r w' ⟨rfl, rfl⟩
      rw [h1]
      go_wp2_with fail
      refine (specTermOk_any _ _ t (HV.out _ (Below.refl _ _))).mono ?_
      rintro r w3 ⟨rfl, b3⟩
      rw [h2]
      obtain ⟨d0, d1, d2⟩ := HC.out _ b3
      have HB3 := Lib.hid (below_step HB.out b3 HB.out.size)
      clear b3
      go_wp2_with fail
      refine (l1In_any _ _ _ _).mono ?_
      rintro r w' ⟨rfl, rfl⟩
      go_wp2_with fail
      go_ret
      exact ⟨ret_bool (by rw [wgB, h1, h2]; rfl), HB3.out⟩
    · go_wp2_with fail
      refine (l1In_any _ _ _ _).mono ?_
      rintro r w' ⟨rfl, rfl⟩
      rw [h1]
      go_wp2_with fail
      refine (specTermOk_any _ _ t (HV.out _ (Below.refl _ _))).mono ?_
      rintro r w3 ⟨rfl, b3⟩
      rw [h2]
      have HB3 := Lib.hid (below_step HB.out b3 HB.out.size)
      clear b3
      go_wp2_with fail
      go_ret
      exact ⟨ret_bool (by rw [wgB, h1, h2]; rfl), HB3.out⟩
  · go_wp2_with fail
    refine (l1In_any _ _ _ _).mono ?_
    rintro r w' ⟨rfl, rfl⟩
    rw [h1]
    go_wp2_with fail
    go_ret
    exact ⟨ret_bool (by rw [wgB, h1]; rfl), HB.out⟩

set_option maxRecDepth 100000 in
set_option maxHeartbeats 4000000 in
theorem specWagerText_any (w : World) (s : Int) (v : Value) (t : List Mk) (p : Int) (hv : QRd w v t) :
    Calls Tryd.prog 9 #[.agg #[.int .i64 s, v, .int .i64 p]] w (TxtPost (wgT s t p) w) := by
  obtain ⟨A, c, rfl, hl, hm⟩ := hv.form
  have HC := Lib.hid (wag_cells w s (.slice A t.length c) p)
  have HB : Hid (Below w.heap.size w (w.alloc (.cells #[.int .i64 s, .slice A t.length c, .int .i64 p] 25))) := Lib.hid ((Below.refl _ _).alloc (Nat.le_refl _) _)
  have HV : Hid (∀ wr, Below (w.alloc (.cells #[.int .i64 s, .slice A t.length c, .int .i64 p] 25)).heap.size (w.alloc (.cells #[.int .i64 s, .slice A t.length c, .int .i64 p] 25)) wr → QRd wr (.slice A t.length c) t) := Lib.hid (fun wr hb => (GRd.keep hv (SameAt.of_below ((Below.refl _ w).alloc (Nat.le_refl _) _))).keep (SameAt.of_below hb))
  clear hv hl hm
  obtain ⟨c0, c1, c2⟩ := HC.out _ (Below.refl _ _)
  rcases Bool.eq_false_or_eq_true (wgB s t p) with h | h
  · obtain ⟨hs9, ht, hp0, hp6⟩ := (wgB_iff _ _ _).1 h
    have hp9 : -9 ≤ p ∧ p ≤ 9 := ⟨by omega, by omega⟩
    obtain ⟨T, rfl, h40⟩ := tm_tree ht
    have hlen := txt_len T
    have HT : Hid (wgT s (encT T) p = num s ++ 42 :: (txtT T ++ 64 :: num p)) := Lib.hid (by rw [wgT_yes h, txtI_tree h40, wtx])
    have HL : Hid ((txtT T).length ≤ 1000000) := Lib.hid (by omega)
    have n1 := (num_mem hs9).2.2
    have n2 := (num_mem hp9).2.2
    have a1 := add_txt (P := Tryd.prog) (num s) [42] (by simp; omega)
    have a2 := add_txt (P := Tryd.prog) (num s ++ [42]) (txtT T) (by simp; omega)
    have a3 := add_txt (P := Tryd.prog) (num s ++ 42 :: txtT T) [64] (by simp; omega)
    have a4 := add_txt (P := Tryd.prog) (num s ++ 42 :: (txtT T ++ [64])) (num p) (by simp; omega)
    clear n1 n2 hlen ht
    go_enter Tryd.func9, Tryd.ntmps9
    go_wp2_with fail
    generalize w.alloc (.cells #[.int .i64 s, .slice A (encT T).length c, .int .i64 p] 25) = wb at HC HB HV c0 c1 c2 ⊢
    refine (specWagerOk_any wb s _ (encT T) p (HV.out _ (Below.refl _ _))).mono ?_
    rintro r w1 ⟨rfl, b1⟩
    rw [h]
    have HC1 : Hid (∀ wr, Below w1.heap.size w1 wr → wr.cell? ⟨w.heap.size, 0, none⟩ = some (.int .i64 s) ∧ wr.cell? ⟨w.heap.size, 1, none⟩ = some (.slice A (encT T).length c) ∧ wr.cell? ⟨w.heap.size, 2, none⟩ = some (.int .i64 p)) := Lib.hid (fun wr hb => HC.out wr (below_step b1 hb b1.size))
    have HV1 : Hid (∀ wr, Below w1.heap.size w1 wr → QRd wr (.slice A (encT T).length c) (encT T)) := Lib.hid (fun wr hb => HV.out wr (below_step b1 hb b1.size))
    have HB1 := Lib.hid (below_step HB.out b1 HB.out.size)
    clear b1 HC HV HB h c0 c1 c2
    have HC := HC1
    have HV := HV1
    have HB := HB1
    clear HC1 HV1 HB1
    go_wp2_with fail
    have k0 : Below w1.heap.size w1 w1.drew := (Below.refl _ _).drew
    refine wp_region_held_drew (S := fun w' => Below w1.heap.size w1 w') (by kernel_rfl) k0 (fun hHeld => ?_)
    refine take_in (i := 0) (v := ?_) rfl (by kernel_rfl) (fun _ _ _ h => h) rfl ?_ hHeld ?_
    rotate_left
    · intro w hSw; go_simp; all_goals with_reducible rfl
    try simp only [Act.put, List.setIfInBounds_toArray, List.set_cons_zero, List.set_cons_succ]
    refine take_in (i := 1) (v := ?_) rfl (by kernel_rfl) (fun _ _ _ h => h) rfl ?_ hHeld ?_
    rotate_left
    · intro w hSw; obtain ⟨d0, d1, d2⟩ := HC.out w hSw; go_simp; all_goals with_reducible rfl
    try simp only [Act.put, List.setIfInBounds_toArray, List.set_cons_zero, List.set_cons_succ]
    refine take_in (i := 4) (v := ?_) rfl (by kernel_rfl) (fun _ _ _ h => h) rfl ?_ hHeld ?_
    rotate_left
    · intro w hSw; go_simp; all_goals with_reducible rfl
    try simp only [Act.put, List.setIfInBounds_toArray, List.set_cons_zero, List.set_cons_succ]
    refine take_in (i := 5) (v := ?_) rfl (by kernel_rfl) (fun _ _ _ h => h) rfl ?_ hHeld ?_
    rotate_left
    · intro w hSw; obtain ⟨d0, d1, d2⟩ := HC.out w hSw; go_simp; all_goals with_reducible rfl
    try simp only [Act.put, List.setIfInBounds_toArray, List.set_cons_zero, List.set_cons_succ]
    refine take_in (i := 9) (v := ?_) rfl (by kernel_rfl) (fun _ _ _ h => h) rfl ?_ hHeld ?_
    rotate_left
    · intro w hSw; go_simp; all_goals with_reducible rfl
    try simp only [Act.put, List.setIfInBounds_toArray, List.set_cons_zero, List.set_cons_succ]
    refine take_in (i := 10) (v := ?_) rfl (by kernel_rfl) (fun _ _ _ h => h) rfl ?_ hHeld ?_
    rotate_left
    · intro w hSw; obtain ⟨d0, d1, d2⟩ := HC.out w hSw; go_simp; all_goals with_reducible rfl
    try simp only [Act.put, List.setIfInBounds_toArray, List.set_cons_zero, List.set_cons_succ]
    refine ready_one (i := 2) rfl (by kernel_rfl) (fun K hK => ?_)
    go_simp
    go_at_call 26
    refine (num_any s hs9 _).mono ?_
    rintro e x1 ⟨rfl, b1⟩
    have k1 := below_step k0 b1 k0.size
    refine hK.out _ x1 k1 (fun hHeld => ?_)
    clear hK K b1
    try simp only [Act.put, List.setIfInBounds_toArray, List.set_cons_zero, List.set_cons_succ]
    refine take_in (i := 3) (v := ?_) rfl (by kernel_rfl) (fun _ _ _ h => h) rfl ?_ hHeld ?_
    rotate_left
    · intro w hSw; go_simp; all_goals with_reducible rfl
    try simp only [Act.put, List.setIfInBounds_toArray, List.set_cons_zero, List.set_cons_succ]
    refine ready_one (i := 6) rfl (by kernel_rfl) (fun K hK => ?_)
    go_simp
    go_at_call 27
    refine (l9Text_any T HL.out _ _ (HV.out _ k1)).mono ?_
    rintro e x2 ⟨rfl, b2⟩
    have k2 := below_step k1 b2 k1.size
    refine hK.out _ x2 k2 (fun hHeld => ?_)
    clear hK K b2
    try simp only [Act.put, List.setIfInBounds_toArray, List.set_cons_zero, List.set_cons_succ]
    refine take_in (i := 7) (v := ?_) rfl (by kernel_rfl) (fun _ _ _ h => h) rfl ?_ hHeld ?_
    rotate_left
    · intro w hSw; go_simp; all_goals with_reducible rfl
    try simp only [Act.put, List.setIfInBounds_toArray, List.set_cons_zero, List.set_cons_succ]
    refine take_in (i := 8) (v := ?_) rfl (by kernel_rfl) (fun _ _ _ h => h) rfl ?_ hHeld ?_
    rotate_left
    · intro w hSw; go_simp; all_goals with_reducible rfl
    try simp only [Act.put, List.setIfInBounds_toArray, List.set_cons_zero, List.set_cons_succ]
    refine ready_one (i := 11) rfl (by kernel_rfl) (fun K hK => ?_)
    go_simp
    go_at_call 26
    refine (num_any p hp9 _).mono ?_
    rintro e x3 ⟨rfl, b3⟩
    have k3 := below_step k2 b3 k2.size
    refine hK.out _ x3 k3 (fun hHeld => ?_)
    clear hK K b3
    try simp only [Act.put, List.setIfInBounds_toArray, List.set_cons_zero, List.set_cons_succ]
    refine take_in (i := 12) (v := ?_) rfl (by kernel_rfl) (fun _ _ _ h => h) rfl ?_ hHeld ?_
    rotate_left
    · intro w hSw; go_simp; all_goals with_reducible rfl
    try simp only [Act.put, List.setIfInBounds_toArray, List.set_cons_zero, List.set_cons_succ]
    refine take_in (i := 13) (v := ?_) rfl (by kernel_rfl) (fun _ _ _ h => h) rfl ?_ hHeld ?_
    rotate_left
    · intro w hSw; go_simp; all_goals with_reducible rfl
    try simp only [Act.put, List.setIfInBounds_toArray, List.set_cons_zero, List.set_cons_succ]
    refine wpAnyH_done (by kernel_rfl) ?_ _
    go_wp2_with fail
    go_ret
    exact ⟨by rw [HT.out]; first | rfl | simp, below_step HB.out k3 HB.out.size⟩
  · have HN := Lib.hid (wgT_no h)
    go_enter Tryd.func9, Tryd.ntmps9
    go_wp2_with fail
    refine (specWagerOk_any _ s _ t p (HV.out _ (Below.refl _ _))).mono ?_
    rintro r w1 ⟨rfl, b1⟩
    rw [h]
    have HB1 := Lib.hid (below_step HB.out b1 HB.out.size)
    clear b1
    go_wp2_with fail
    go_ret
    exact ⟨by rw [HN.out]; rfl, HB1.out⟩

end Go.Proofs.YtfdlfgokoponmaaDoor
