/- spec.l9Event, spec.EventOfTerm. Conditions: rows that read as lists of marks. -/
import Derived.Test.YtfdlfgokoponmaaXd
namespace Go.Proofs.Ytfdlfgokoponmaa
open Go.RowKit
set_option linter.unusedVariables false

theorem take_left {a b : List Mk} {L : Nat} (h : a.length = L) : (a ++ b).take L = a := by subst h; simp

theorem drop_left {a b : List Mk} {L : Nat} (h : a.length = L) : (a ++ b).drop L = b := by subst h; simp

theorem at_last {a : List Mk} {m : Mk} {L : Nat} (h : a.length = L) : (a ++ [m])[L]? = some m := by subst h; simp

theorem and_16 : ∀ a b : Fin 16, bits BinOp.and IntKind.i64 ((a : Nat) : Int) ((b : Nat) : Int) = (((a : Nat) &&& (b : Nat) : Nat) : Int) := by decide +kernel

theorem or_16 : ∀ a b : Fin 16, bits BinOp.or IntKind.i64 ((a : Nat) : Int) ((b : Nat) : Int) = (((a : Nat) ||| (b : Nat) : Nat) : Int) := by decide +kernel

def EvPost (n : Nat) (w : World) (e : Ending) (w' : World) : Prop := e = .returned (.int .i64 (n : Int)) ∧ Below w.heap.size w w'

theorem l9Event_lt (b : Bool) (w : World) (v : Value) (hv : QRd w v (encT (.lt b))) :
    Calls Try.prog 35 #[v] w (EvPost (evT (.lt b)) w) := by
  obtain ⟨A, c, rfl, hl, hm⟩ := hv.form
  have HV := Lib.hid hv
  clear hv
  obtain ⟨b', off, x, rfl, -, hx, hc0, hc1⟩ := QRd.at_ (k := 0) HV.out (by cases b <;> decide)
  simp only [encT, letM, List.getElem?_cons_zero, Option.some.injEq] at hx
  subst hx
  simp only [encT, List.length_cons, List.length_nil] at hl HV ⊢
  cases b
  all_goals
    simp at hc0 hc1
    go_enter Try.func35, Try.ntmps35
    go_wp2_with fail
    go_ret
    exact ⟨rfl, Below.refl _ _⟩

set_option maxHeartbeats 1000000 in
theorem l9Event_no (x : Tm) (ih : ∀ (w : World) (v : Value), QRd w v (encT x) → Calls Try.prog 35 #[v] w (EvPost (evT x) w))
    (w : World) (v : Value) (hv : QRd w v (encT (.no x))) :
    Calls Try.prog 35 #[v] w (EvPost (evT (.no x)) w) := by
  obtain ⟨A, c, rfl, hl, hm⟩ := hv.form
  rw [encT] at hv hl ⊢
  have hp := enc_pos x
  obtain ⟨L, hL⟩ : ∃ L, (encT x).length = L := ⟨_, rfl⟩
  have hlen : (encT x ++ [((1 : Int), (0 : Int))]).length = L + 1 := by simp [hL]
  rw [hlen] at hv hl ⊢
  obtain ⟨b', off, m, rfl, -, hx, hc0, hc1⟩ := QRd.at_ (k := L) hv (by omega)
  rw [at_last hL] at hx
  obtain rfl := Option.some.inj hx
  have HX : Hid (QRd w (.slice (some ⟨b', off, none⟩) L c) (encT x)) := Lib.hid (by have := GRd.take7 hv (k := L) (by omega); rwa [take_left hL] at this)
  have h16 := evT_16 x
  rw [hL] at hp
  have IH := Lib.hid ih
  clear hv hx hlen hL ih
  dsimp only at hc0 hc1
  go_enter Try.func35, Try.ntmps35
  go_wp2_with fail
  refine (IH.out _ _ HX.out).mono ?_
  rintro r w' ⟨rfl, hb⟩
  go_wp2_with fail
  go_ret
  exact ⟨ret_int (by rw [evT]; omega), hb⟩

set_option maxHeartbeats 1000000 in
theorem l9Event_vel (x y : Tm) (ihx : ∀ (w : World) (v : Value), QRd w v (encT x) → Calls Try.prog 35 #[v] w (EvPost (evT x) w)) (ihy : ∀ (w : World) (v : Value), QRd w v (encT y) → Calls Try.prog 35 #[v] w (EvPost (evT y) w))
    (w : World) (v : Value) (hv : QRd w v (encT (.vel x y))) :
    Calls Try.prog 35 #[v] w (EvPost (evT (.vel x y)) w) := by
  obtain ⟨A, c, rfl, hl, hm⟩ := hv.form
  rw [encT] at hv hl ⊢
  have hp := enc_pos y
  have hp' := enc_pos x
  obtain ⟨L, hL⟩ : ∃ L, (encT x).length = L := ⟨_, rfl⟩
  obtain ⟨N, hN⟩ : ∃ N, (encT x ++ encT y).length = N := ⟨_, rfl⟩
  have hNL : N = L + (encT y).length := by rw [← hN, List.length_append, hL]
  have hlen : (encT x ++ encT y ++ [((3 : Int), (0 : Int))]).length = N + 1 := by rw [List.length_append, hN]; rfl
  rw [hlen] at hv hl ⊢
  obtain ⟨b', off, m, rfl, -, hx, hc0, hc1⟩ := QRd.at_ (k := N) hv (by omega)
  rw [at_last hN] at hx
  obtain rfl := Option.some.inj hx
  have hv1 := GRd.take7 hv (k := N) (by omega)
  rw [take_left hN] at hv1
  have hvx := GRd.take7 hv1 (k := L) (by omega)
  rw [take_left hL] at hvx
  have hvy := GRd.drop7 (n := N) (k := L) (m := N - L) hv1 (by omega)
  rw [drop_left hL] at hvy
  have HT : Hid ((encT x ++ encT y ++ [((3 : Int), (0 : Int))]).take (N - 1 + 1) = flatR [y, x]) := Lib.hid (by rw [Nat.sub_add_cancel (by omega), take_left hN, flatR_cons, flatR_cons]; rfl)
  have HF : Hid ((flatR [x]).length = L) := Lib.hid (by rw [flatR_cons]; simpa [flatR] using hL)
  have CX : Hid (∀ w' : World, Below w.heap.size w w' → Calls Try.prog 35 #[.slice (some ⟨b', off, none⟩) L c] w' (EvPost (evT x) w')) := Lib.hid (fun w' hb => ihx w' _ (hvx.keep (SameAt.of_below hb)))
  have CY : Hid (∀ w' : World, Below w.heap.size w w' → Calls Try.prog 35 #[.slice (some ⟨b', off + L * 2, none⟩) (N - L) (c - L)] w' (EvPost (evT y) w')) := Lib.hid (fun w' hb => ihy w' _ (hvy.keep (SameAt.of_below hb)))
  have HV := Lib.hid hv
  have HLEN := Lib.hid hlen
  have hLN : L < N := by omega
  have hL1 : 1 ≤ N := by omega
  have hLc : L < c := by omega
  have hNc : N < c := by omega
  have hLN' : (L : Int) ≤ (N : Int) := by omega
  clear hv hv1 hvx hvy hx hlen hL hN hNL hp hp' ihx ihy
  dsimp only at hc0 hc1
  go_enter Try.func35, Try.ntmps35
  go_wp2_with fail
  rw [show ((N : Int) - 1) = ((N - 1 : Nat) : Int) from by omega]
  refine (l9Starts_any w _ _ (N - 1) y [x] HV.out (by rw [HLEN.out]; omega) HT.out).mono ?_
  rintro r w' ⟨rfl, rfl⟩
  rw [HF.out]
  have HB : Hid (Below w.heap.size w w.drew) := Lib.hid (Below.refl _ _).drew
  go_wp2_with fail
  go_region_with (go_at_call 35; first | (refine (CY.out _ HB2.out).mono ?_; rintro r w3 ⟨rfl, h3⟩; have HB3 := Lib.hid (below_step HB2.out h3 HB2.out.size); clear h3) | (refine (CX.out _ HB.out).mono ?_; rintro r w2 ⟨rfl, h2⟩; have HB2 := Lib.hid (below_step HB.out h2 HB.out.size); clear h2))
  all_goals
    go_wp2_with fail
    go_ret
    exact ⟨ret_int (or_16 ⟨_, evT_16 x⟩ ⟨_, evT_16 y⟩), HB3.out⟩

set_option maxHeartbeats 1000000 in
theorem l9Event_an (x y : Tm) (ihx : ∀ (w : World) (v : Value), QRd w v (encT x) → Calls Try.prog 35 #[v] w (EvPost (evT x) w)) (ihy : ∀ (w : World) (v : Value), QRd w v (encT y) → Calls Try.prog 35 #[v] w (EvPost (evT y) w))
    (w : World) (v : Value) (hv : QRd w v (encT (.an x y))) :
    Calls Try.prog 35 #[v] w (EvPost (evT (.an x y)) w) := by
  obtain ⟨A, c, rfl, hl, hm⟩ := hv.form
  rw [encT] at hv hl ⊢
  have hp := enc_pos y
  have hp' := enc_pos x
  obtain ⟨L, hL⟩ : ∃ L, (encT x).length = L := ⟨_, rfl⟩
  obtain ⟨N, hN⟩ : ∃ N, (encT x ++ encT y).length = N := ⟨_, rfl⟩
  have hNL : N = L + (encT y).length := by rw [← hN, List.length_append, hL]
  have hlen : (encT x ++ encT y ++ [((2 : Int), (0 : Int))]).length = N + 1 := by rw [List.length_append, hN]; rfl
  rw [hlen] at hv hl ⊢
  obtain ⟨b', off, m, rfl, -, hx, hc0, hc1⟩ := QRd.at_ (k := N) hv (by omega)
  rw [at_last hN] at hx
  obtain rfl := Option.some.inj hx
  have hv1 := GRd.take7 hv (k := N) (by omega)
  rw [take_left hN] at hv1
  have hvx := GRd.take7 hv1 (k := L) (by omega)
  rw [take_left hL] at hvx
  have hvy := GRd.drop7 (n := N) (k := L) (m := N - L) hv1 (by omega)
  rw [drop_left hL] at hvy
  have HT : Hid ((encT x ++ encT y ++ [((2 : Int), (0 : Int))]).take (N - 1 + 1) = flatR [y, x]) := Lib.hid (by rw [Nat.sub_add_cancel (by omega), take_left hN, flatR_cons, flatR_cons]; rfl)
  have HF : Hid ((flatR [x]).length = L) := Lib.hid (by rw [flatR_cons]; simpa [flatR] using hL)
  have CX : Hid (∀ w' : World, Below w.heap.size w w' → Calls Try.prog 35 #[.slice (some ⟨b', off, none⟩) L c] w' (EvPost (evT x) w')) := Lib.hid (fun w' hb => ihx w' _ (hvx.keep (SameAt.of_below hb)))
  have CY : Hid (∀ w' : World, Below w.heap.size w w' → Calls Try.prog 35 #[.slice (some ⟨b', off + L * 2, none⟩) (N - L) (c - L)] w' (EvPost (evT y) w')) := Lib.hid (fun w' hb => ihy w' _ (hvy.keep (SameAt.of_below hb)))
  have HV := Lib.hid hv
  have HLEN := Lib.hid hlen
  have hLN : L < N := by omega
  have hL1 : 1 ≤ N := by omega
  have hLc : L < c := by omega
  have hNc : N < c := by omega
  have hLN' : (L : Int) ≤ (N : Int) := by omega
  clear hv hv1 hvx hvy hx hlen hL hN hNL hp hp' ihx ihy
  dsimp only at hc0 hc1
  go_enter Try.func35, Try.ntmps35
  go_wp2_with fail
  rw [show ((N : Int) - 1) = ((N - 1 : Nat) : Int) from by omega]
  refine (l9Starts_any w _ _ (N - 1) y [x] HV.out (by rw [HLEN.out]; omega) HT.out).mono ?_
  rintro r w' ⟨rfl, rfl⟩
  rw [HF.out]
  have HB : Hid (Below w.heap.size w w.drew) := Lib.hid (Below.refl _ _).drew
  go_wp2_with fail
  go_region_with (go_at_call 35; first | (refine (CY.out _ HB2.out).mono ?_; rintro r w3 ⟨rfl, h3⟩; have HB3 := Lib.hid (below_step HB2.out h3 HB2.out.size); clear h3) | (refine (CX.out _ HB.out).mono ?_; rintro r w2 ⟨rfl, h2⟩; have HB2 := Lib.hid (below_step HB.out h2 HB.out.size); clear h2))
  all_goals
    go_wp2_with fail
    go_ret
    exact ⟨ret_int (and_16 ⟨_, evT_16 x⟩ ⟨_, evT_16 y⟩), HB3.out⟩

theorem l9Event_any (T : Tm) : ∀ (w : World) (v : Value), QRd w v (encT T) → Calls Try.prog 35 #[v] w (EvPost (evT T) w) := by
  induction T with
  | lt b => exact fun w v hv => l9Event_lt b w v hv
  | no x ih => exact fun w v hv => l9Event_no x ih w v hv
  | an x y ihx ihy => exact fun w v hv => l9Event_an x y ihx ihy w v hv
  | vel x y ihx ihy => exact fun w v hv => l9Event_vel x y ihx ihy w v hv

/-- the event of a row of marks -/
noncomputable def evI (t : List Mk) : Int := open Classical in if h : ∃ T, encT T = t ∧ t.length ≤ 40 then (evT h.choose : Int) else -1

theorem evI_tree {T : Tm} (h : (encT T).length ≤ 40) : evI (encT T) = evT T := by
  have hx : ∃ U, encT U = encT T ∧ (encT T).length ≤ 40 := ⟨T, rfl, h⟩
  unfold evI
  rw [dif_pos hx, enc_inj hx.choose_spec.1]

theorem evI_no {t : List Mk} (h : tmB t = false) : evI t = -1 := by
  unfold evI
  rw [dif_neg]
  rintro ⟨T, rfl, h2⟩
  rw [tree_tm h2] at h
  cases h

def NumP (n : Int) (w : World) (e : Ending) (w' : World) : Prop := e = .returned (.int .i64 n) ∧ Below w.heap.size w w'

end Go.Proofs.Ytfdlfgokoponmaa
