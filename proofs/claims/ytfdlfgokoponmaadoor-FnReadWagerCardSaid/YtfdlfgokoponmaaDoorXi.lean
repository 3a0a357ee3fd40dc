/- spec.l9Text, spec.TermText. Conditions: rows that read as lists of marks; texts of at most a million bytes. -/
import Derived.Test.YtfdlfgokoponmaaDoorXh
namespace Go.Proofs.YtfdlfgokoponmaaDoor
open Go.RowKit
set_option linter.unusedVariables false

set_option maxHeartbeats 1000000 in
theorem l9Text_lt (b : Bool) (w : World) (v : Value) (hv : QRd w v (encT (.lt b))) :
    Calls Tryd.prog 27 #[v] w (TxtPost (txtT (.lt b)) w) := by
  obtain ⟨A, c, rfl, hl, hm⟩ := hv.form
  have HV := Lib.hid hv
  clear hv
  obtain ⟨b', off, x, rfl, -, hx, hc0, hc1⟩ := QRd.at_ (k := 0) HV.out (by cases b <;> decide)
  simp only [encT, letM, List.getElem?_cons_zero, Option.some.injEq] at hx
  subst hx
  simp only [encT, List.length_cons, List.length_nil] at hl HV ⊢
  have HB : Hid (Below w.heap.size w w.drew) := Lib.hid (Below.refl _ _).drew
  cases b
  all_goals
    simp at hc0 hc1
    go_enter Tryd.func27, Tryd.ntmps27
    go_wp2_with fail
    go_region
    all_goals
      go_wp2_with fail
      go_ret
      exact ⟨rfl, HB.out⟩

set_option maxHeartbeats 1000000 in
theorem l9Text_no (x : Tm) (hs : (txtT (.no x)).length ≤ 1000000) (ih : ∀ (w : World) (v : Value), QRd w v (encT x) → Calls Tryd.prog 51 #[v, .int .i64 2] w (TxtPost (heldT 2 x) w))
    (w : World) (v : Value) (hv : QRd w v (encT (.no x))) :
    Calls Tryd.prog 27 #[v] w (TxtPost (txtT (.no x)) w) := by
  obtain ⟨A, c, rfl, hl, hm⟩ := hv.form
  rw [encT] at hv hl ⊢
  have hp := enc_pos x
  obtain ⟨L, hL⟩ : ∃ L, (encT x).length = L := ⟨_, rfl⟩
  have hlen : (encT x ++ [((1 : Int), (0 : Int))]).length = L + 1 := by simp [hL]
  rw [hlen] at hv hl ⊢
  obtain ⟨b', off, m, rfl, -, hx, hc0, hc1⟩ := QRd.at_ (k := L) hv (by omega)
  rw [at_last hL] at hx
  obtain rfl := Option.some.inj hx
  have HX : Hid (QRd w (.slice (some ⟨b', off, none⟩) L c) (encT x)) := Lib.hid (by have := GRd.take7 hv (k := L) (by omega); rwa [take_left hL] at this)
  have htx : txtT (.no x) = 33 :: heldT 2 x := rfl
  have hs' := hs
  rw [htx, List.length_cons] at hs'
  have h1 : ∀ w : World, (Op.stringOp .add ⟨[33].toArray⟩ ⟨(heldT 2 x).toArray⟩).run Tryd.prog w = .ok (.string ⟨(33 :: heldT 2 x).toArray⟩) w := fun w => add_txt [33] _ (by simp; omega) w
  rw [hL] at hp
  have IH := Lib.hid ih
  clear hv hx hlen hL ih hs hs' htx
  dsimp only at hc0 hc1
  go_enter Tryd.func27, Tryd.ntmps27
  go_wp2_with fail
  refine (IH.out _ _ HX.out).mono ?_
  rintro r w' ⟨rfl, hb⟩
  go_wp2_with fail
  go_ret
  exact ⟨ret_txt rfl, hb⟩

set_option maxHeartbeats 1000000 in
theorem l9Text_an (x y : Tm) (hs : (txtT (.an x y)).length ≤ 1000000) (ihx : ∀ (w : World) (v : Value), QRd w v (encT x) → Calls Tryd.prog 51 #[v, .int .i64 1] w (TxtPost (heldT 1 x) w)) (ihy : ∀ (w : World) (v : Value), QRd w v (encT y) → Calls Tryd.prog 51 #[v, .int .i64 2] w (TxtPost (heldT 2 y) w))
    (w : World) (v : Value) (hv : QRd w v (encT (.an x y))) :
    Calls Tryd.prog 27 #[v] w (TxtPost (txtT (.an x y)) w) := by
  obtain ⟨A, c, rfl, hl, hm⟩ := hv.form
  rw [encT] at hv hl ⊢
  have hp := enc_pos y
  have hp' := enc_pos x
  obtain ⟨L, hL⟩ : ∃ L, (encT x).length = L := ⟨_, rfl⟩
  obtain ⟨N, hN⟩ : ∃ N, (encT x ++ encT y).length = N := ⟨_, rfl⟩
  have hNL : N = L + (encT y).length := by rw [← hN, List.length_append, hL]
  have hlen : (encT x ++ encT y ++ [((2 : Int), (0 : Int))]).length = N + 1 := by rw [List.length_append, hN]; rfl
  rw [hlen] at hv hl ⊢
  obtain ⟨b', off, m, rfl, -, hx, hc0, hc1⟩ := QRd.at_ (k := N) hv (by omega)
  rw [at_last hN] at hx
  obtain rfl := Option.some.inj hx
  have hv1 := GRd.take7 hv (k := N) (by omega)
  rw [take_left hN] at hv1
  have hvx := GRd.take7 hv1 (k := L) (by omega)
  rw [take_left hL] at hvx
  have hvy := GRd.drop7 (n := N) (k := L) (m := N - L) hv1 (by omega)
  rw [drop_left hL] at hvy
  have HT : Hid ((encT x ++ encT y ++ [((2 : Int), (0 : Int))]).take (N - 1 + 1) = flatR [y, x]) := Lib.hid (by rw [Nat.sub_add_cancel (by omega), take_left hN, flatR_cons, flatR_cons]; rfl)
  have HF : Hid ((flatR [x]).length = L) := Lib.hid (by rw [flatR_cons]; simpa [flatR] using hL)
  have CX : Hid (∀ w' : World, Below w.heap.size w w' → Calls Tryd.prog 51 #[.slice (some ⟨b', off, none⟩) L c, .int .i64 1] w' (TxtPost (heldT 1 x) w')) := Lib.hid (fun w' hb => ihx w' _ (hvx.keep (SameAt.of_below hb)))
  have CY : Hid (∀ w' : World, Below w.heap.size w w' → Calls Tryd.prog 51 #[.slice (some ⟨b', off + L * 2, none⟩) (N - L) (c - L), .int .i64 2] w' (TxtPost (heldT 2 y) w')) := Lib.hid (fun w' hb => ihy w' _ (hvy.keep (SameAt.of_below hb)))
  have HV := Lib.hid hv
  have HLEN := Lib.hid hlen
  have htx : txtT (.an x y) = heldT 1 x ++ 38 :: heldT 2 y := rfl
  have hs' := hs
  rw [htx, List.length_append, List.length_cons] at hs'
  have h1 : ∀ w : World, (Op.stringOp .add ⟨(heldT 1 x).toArray⟩ ⟨[38].toArray⟩).run Tryd.prog w = .ok (.string ⟨(heldT 1 x ++ [38]).toArray⟩) w := fun w => add_txt _ [38] (by simp; omega) w
  have h2 : ∀ w : World, (Op.stringOp .add ⟨(heldT 1 x ++ [38]).toArray⟩ ⟨(heldT 2 y).toArray⟩).run Tryd.prog w = .ok (.string ⟨(heldT 1 x ++ [38] ++ heldT 2 y).toArray⟩) w := fun w => add_txt _ _ (by simp; omega) w
  have HTX := Lib.hid htx
  have hLN : L < N := by omega
  have hL1 : 1 ≤ N := by omega
  have hLc : L < c := by omega
  have hNc : N < c := by omega
  have hLN' : (L : Int) ≤ (N : Int) := by omega
  clear hv hv1 hvx hvy hx hlen hL hN hNL hp hp' ihx ihy hs hs' htx
  dsimp only at hc0 hc1
  go_enter Tryd.func27, Tryd.ntmps27
  go_wp2_with fail
  rw [show ((N : Int) - 1) = ((N - 1 : Nat) : Int) from by omega]
  refine (l9Starts_any w _ _ (N - 1) y [x] HV.out (by rw [HLEN.out]; omega) HT.out).mono ?_
  rintro r w' ⟨rfl, rfl⟩
  rw [HF.out]
  have HB : Hid (Below w.heap.size w w.drew) := Lib.hid (Below.refl _ _).drew
  go_wp2_with fail
  go_region_with (go_at_call 51; first | (refine (CY.out _ HB2.out).mono ?_; rintro r w3 ⟨rfl, h3⟩; have HB3 := Lib.hid (below_step HB2.out h3 HB2.out.size); clear h3) | (refine (CX.out _ HB.out).mono ?_; rintro r w2 ⟨rfl, h2⟩; have HB2 := Lib.hid (below_step HB.out h2 HB.out.size); clear h2))
  all_goals
    go_wp2_with fail
    go_ret
    exact ⟨ret_txt (by first | (rw [HTX.out]; done) | (rw [HTX.out]; simp)), HB3.out⟩

set_option maxHeartbeats 1000000 in
theorem l9Text_vel (x y : Tm) (hs : (txtT (.vel x y)).length ≤ 1000000) (ihx : ∀ (w : World) (v : Value), QRd w v (encT x) → Calls Tryd.prog 51 #[v, .int .i64 0] w (TxtPost (heldT 0 x) w)) (ihy : ∀ (w : World) (v : Value), QRd w v (encT y) → Calls Tryd.prog 51 #[v, .int .i64 1] w (TxtPost (heldT 1 y) w))
    (w : World) (v : Value) (hv : QRd w v (encT (.vel x y))) :
    Calls Tryd.prog 27 #[v] w (TxtPost (txtT (.vel x y)) w) := by
  obtain ⟨A, c, rfl, hl, hm⟩ := hv.form
  rw [encT] at hv hl ⊢
  have hp := enc_pos y
  have hp' := enc_pos x
  obtain ⟨L, hL⟩ : ∃ L, (encT x).length = L := ⟨_, rfl⟩
  obtain ⟨N, hN⟩ : ∃ N, (encT x ++ encT y).length = N := ⟨_, rfl⟩
  have hNL : N = L + (encT y).length := by rw [← hN, List.length_append, hL]
  have hlen : (encT x ++ encT y ++ [((3 : Int), (0 : Int))]).length = N + 1 := by rw [List.length_append, hN]; rfl
  rw [hlen] at hv hl ⊢
  obtain ⟨b', off, m, rfl, -, hx, hc0, hc1⟩ := QRd.at_ (k := N) hv (by omega)
  rw [at_last hN] at hx
  obtain rfl := Option.some.inj hx
  have hv1 := GRd.take7 hv (k := N) (by omega)
  rw [take_left hN] at hv1
  have hvx := GRd.take7 hv1 (k := L) (by omega)
  rw [take_left hL] at hvx
  have hvy := GRd.drop7 (n := N) (k := L) (m := N - L) hv1 (by omega)
  rw [drop_left hL] at hvy
  have HT : Hid ((encT x ++ encT y ++ [((3 : Int), (0 : Int))]).take (N - 1 + 1) = flatR [y, x]) := Lib.hid (by rw [Nat.sub_add_cancel (by omega), take_left hN, flatR_cons, flatR_cons]; rfl)
  have HF : Hid ((flatR [x]).length = L) := Lib.hid (by rw [flatR_cons]; simpa [flatR] using hL)
  have CX : Hid (∀ w' : World, Below w.heap.size w w' → Calls Tryd.prog 51 #[.slice (some ⟨b', off, none⟩) L c, .int .i64 0] w' (TxtPost (heldT 0 x) w')) := Lib.hid (fun w' hb => ihx w' _ (hvx.keep (SameAt.of_below hb)))
  have CY : Hid (∀ w' : World, Below w.heap.size w w' → Calls Tryd.prog 51 #[.slice (some ⟨b', off + L * 2, none⟩) (N - L) (c - L), .int .i64 1] w' (TxtPost (heldT 1 y) w')) := Lib.hid (fun w' hb => ihy w' _ (hvy.keep (SameAt.of_below hb)))
  have HV := Lib.hid hv
  have HLEN := Lib.hid hlen
  have htx : txtT (.vel x y) = heldT 0 x ++ 124 :: heldT 1 y := by rw [txtT]; rfl
  have hs' := hs
  rw [htx, List.length_append, List.length_cons] at hs'
  have h1 : ∀ w : World, (Op.stringOp .add ⟨(heldT 0 x).toArray⟩ ⟨[124].toArray⟩).run Tryd.prog w = .ok (.string ⟨(heldT 0 x ++ [124]).toArray⟩) w := fun w => add_txt _ [124] (by simp; omega) w
  have h2 : ∀ w : World, (Op.stringOp .add ⟨(heldT 0 x ++ [124]).toArray⟩ ⟨(heldT 1 y).toArray⟩).run Tryd.prog w = .ok (.string ⟨(heldT 0 x ++ [124] ++ heldT 1 y).toArray⟩) w := fun w => add_txt _ _ (by simp; omega) w
  have HTX := Lib.hid htx
  have hLN : L < N := by omega
  have hL1 : 1 ≤ N := by omega
  have hLc : L < c := by omega
  have hNc : N < c := by omega
  have hLN' : (L : Int) ≤ (N : Int) := by omega
  clear hv hv1 hvx hvy hx hlen hL hN hNL hp hp' ihx ihy hs hs' htx
  dsimp only at hc0 hc1
  go_enter Tryd.func27, Tryd.ntmps27
  go_wp2_with fail
  rw [show ((N : Int) - 1) = ((N - 1 : Nat) : Int) from by omega]
  refine (l9Starts_any w _ _ (N - 1) y [x] HV.out (by rw [HLEN.out]; omega) HT.out).mono ?_
  rintro r w' ⟨rfl, rfl⟩
  rw [HF.out]
  have HB : Hid (Below w.heap.size w w.drew) := Lib.hid (Below.refl _ _).drew
  go_wp2_with fail
  go_region_with (go_at_call 51; first | (refine (CY.out _ HB2.out).mono ?_; rintro r w3 ⟨rfl, h3⟩; have HB3 := Lib.hid (below_step HB2.out h3 HB2.out.size); clear h3) | (refine (CX.out _ HB.out).mono ?_; rintro r w2 ⟨rfl, h2⟩; have HB2 := Lib.hid (below_step HB.out h2 HB.out.size); clear h2))
  all_goals
    go_wp2_with fail
    go_ret
    exact ⟨ret_txt (by first | (rw [HTX.out]; done) | (rw [HTX.out]; simp)), HB3.out⟩

theorem txt_no (x : Tm) : (txtT x).length ≤ (txtT (.no x)).length := by
  have := brk_ge (decide (ownT x < 2)) (txtT x)
  simp only [txtT, List.length_cons]
  omega

theorem txt_an (x y : Tm) : (txtT x).length ≤ (txtT (.an x y)).length ∧ (txtT y).length ≤ (txtT (.an x y)).length := by
  have h1 := brk_ge (decide (ownT x < 1)) (txtT x)
  have h2 := brk_ge (decide (ownT y < 2)) (txtT y)
  simp only [txtT, List.length_cons, List.length_append]
  omega

theorem txt_vel (x y : Tm) : (txtT x).length ≤ (txtT (.vel x y)).length ∧ (txtT y).length ≤ (txtT (.vel x y)).length := by
  have h2 := brk_ge (decide (ownT y < 1)) (txtT y)
  simp only [txtT, List.length_cons, List.length_append]
  omega

theorem l9Text_any (T : Tm) : (txtT T).length ≤ 1000000 → ∀ (w : World) (v : Value), QRd w v (encT T) → Calls Tryd.prog 27 #[v] w (TxtPost (txtT T) w) := by
  induction T with
  | lt b => exact fun _ w v hv => l9Text_lt b w v hv
  | no x ih =>
    intro hs w v hv
    have h1 := txt_no x
    exact l9Text_no x hs (l9Held_of x 2 (by omega) (by omega) (ih (by omega))) w v hv
  | an x y ihx ihy =>
    intro hs w v hv
    have h1 := txt_an x y
    exact l9Text_an x y hs (l9Held_of x 1 (by omega) (by omega) (ihx (by omega))) (l9Held_of y 2 (by omega) (by omega) (ihy (by omega))) w v hv
  | vel x y ihx ihy =>
    intro hs w v hv
    have h1 := txt_vel x y
    exact l9Text_vel x y hs (l9Held_of x 0 (by omega) (by omega) (ihx (by omega))) (l9Held_of y 1 (by omega) (by omega) (ihy (by omega))) w v hv

/-- the text of a row of marks -/
noncomputable def txtI (t : List Mk) : List UInt8 := open Classical in if h : ∃ T, encT T = t ∧ t.length ≤ 40 then txtT h.choose else []

theorem txtI_tree {T : Tm} (h : (encT T).length ≤ 40) : txtI (encT T) = txtT T := by
  have hx : ∃ U, encT U = encT T ∧ (encT T).length ≤ 40 := ⟨T, rfl, h⟩
  unfold txtI
  rw [dif_pos hx, enc_inj hx.choose_spec.1]

theorem txtI_no {t : List Mk} (h : tmB t = false) : txtI t = [] := by
  unfold txtI
  rw [dif_neg]
  rintro ⟨T, rfl, h2⟩
  rw [tree_tm h2] at h
  cases h

end Go.Proofs.YtfdlfgokoponmaaDoor
