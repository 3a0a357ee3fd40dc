/- Contracts of the program's LeastOn, MostOn, PinnedOk. Conditions: a row of quotes that reads as a list. -/
import Derived.Test.YteljcicdibbhdaaTi
namespace Go.Proofs.Yteljcicdibbhdaa
open Go.RowKit Go.Shelf
set_option linter.unusedVariables false
attribute [local go_sem] Oper.semAt_some

set_option maxRecDepth 100000 in
set_option maxHeartbeats 8000000 in
theorem implLeastOn_any (w : World) (n : Int) (v : Value) (qs : List Qt) (e : Int) (hv : QRd w v qs) :
    Calls Try.prog 16 #[.int .i64 n, v, .int .i64 e] w (IntPost (leastB n qs e) w) := by
  obtain ⟨A, c, rfl, hl, hmx⟩ := hv.form
  obtain ⟨w1, hw1⟩ : ∃ w1, w.alloc (.cells #[.int .i64 e] 3) = w1 := ⟨_, rfl⟩
  have hsz1 : w1.heap.size = w.heap.size + 1 := by rw [← hw1]; simp
  have hB1 : Below w.heap.size w w1 := by rw [← hw1]; exact (Below.refl _ _).alloc (Nat.le_refl _) _
  have hc1 : w1.cell? ⟨w.heap.size, 0, none⟩ = some (.int .i64 e) := by rw [← hw1]; exact (new_cell w (.int .i64 e) 3).1
  have HS1 := Lib.hid hsz1
  have HB1 := Lib.hid hB1
  have HW1 := Lib.hid hw1
  have HC : Hid (∀ A', Below w1.heap.size w1 A' → A'.cell? ⟨w.heap.size, 0, none⟩ = some (.int .i64 e)) := Lib.hid (fun A' h => (h.cell (p := ⟨w.heap.size, 0, none⟩) (show w.heap.size < w1.heap.size by omega)).trans hc1)
  have HV : Hid (∀ A', Below w1.heap.size w1 A' → QRd A' (.slice A qs.length c) qs) := Lib.hid (fun A' h => (hv.keep (SameAt.of_below hB1)).keep (SameAt.of_below h))
  clear hv hsz1 hB1 hw1 hc1
  have hc1 := HC.out w1 (Below.refl _ _)
  rcases Bool.eq_false_or_eq_true (bokB n qs) with h | h
  · rcases Bool.eq_false_or_eq_true (evB n e) with k | k
    · have HE := Lib.hid (evB_15 k)
      have HQ := Lib.hid (qts_of h)
      have hw1 : 1 ≤ n := ((bokB_iff _ _).1 h).1.1
      have hw2 : n ≤ 4 := ((bokB_iff _ _).1 h).1.2
      obtain ⟨m, rfl⟩ : ∃ m : Nat, n = m := ⟨n.toNat, by omega⟩
      have hm1 : 1 ≤ m := by omega
      have hm4 : m ≤ 4 := by omega
      have HR : Hid (leastB (m : Int) qs e = leastI m qs e) := Lib.hid (leastB_yes h k)
      go_enter Try.func16, Try.ntmps16
      go_wp2_with fail
      rw [HW1.out]
      refine (implBookOk_any _ _ _ _ (HV.out w1 (Below.refl _ _))).mono ?_
      rintro r w2 ⟨rfl, b2⟩
      rw [h]
      have HB2 := Lib.hid b2
      have hc2 := HC.out w2 b2
      clear b2
      go_wp2_with fail
      refine (implEventOk_any _ _ _).mono ?_
      rintro r w' ⟨rfl, rfl⟩
      rw [k]
      clear h k
      go_wp2_with fail
      refine (fitting_any w2 (m : Int) A _ c).mono ?_
      rintro r w5 ⟨rfl, hw5⟩
      unfold fitV
      obtain ⟨hB5, hsz5, hqs⟩ := id hw5
      have HS5 := Lib.hid hsz5
      have HB5 : Hid (Below w1.heap.size w1 w5) := Lib.hid (below_step HB2.out hB5 HB2.out.size)
      have HSQ : Hid (∀ w0 C, Below w5.heap.size w5 w0 → w5.heap.size ≤ C → C < w0.heap.size → RowWalk 3 Try.prog 111 #[.pointer (some ⟨w2.heap.size + 1, 0, none⟩), .pointer (some ⟨w2.heap.size + 1 + 1, 0, none⟩)] C w0 (fitAll m qs)) := Lib.hid (by
        intro w0 C hb0 hCl hCs
        have h5 := HS5.out
        exact fitWalk_any 3 C w2.heap.size m (.slice A qs.length c) qs w0 (by omega) (by omega) (by omega) hCs (hw5.cells hb0 (by omega))
          (fun A' hA => (HV.out w5 HB5.out).keep ⟨by have := hA.1; have := hb0.size; omega, fun g _ hlt => (hA.2 g (by have := hb0.size; omega) (by omega)).trans (hb0.block g hlt)⟩) HQ.out hm1 hm4)
      clear hw5 hsz5 hB5 hqs
      have hc5 := HC.out w5 HB5.out
      go_wp2_with fail
      refine (foldLeast_any w5 (w2.heap.size + 1) (w2.heap.size + 1 + 1) w.heap.size (37) (leastS e) (fitAll m qs) HSQ.out (fun A' pre x v hA hp hx => ?_)).mono ?_
      · obtain ⟨l, hl, rfl⟩ := pre_mem hp
        exact leastStep_any A' _ v _ e _ (HC.out A' (HB5.out.trans (hA.mono HB5.out.size))) hx (grs_fit hm1 hm4 hl) HE.out.1 HE.out.2
      rintro r w6 ⟨rfl, b6⟩
      have HB6 : Hid (Below w.heap.size w w6) := Lib.hid (below_step (below_step HB1.out HB5.out HB1.out.size) b6 (below_step HB1.out HB5.out HB1.out.size).size)
      clear b6 hc1 hc2 hc5
      rcases least_is (qs := qs) hm1 e with ⟨hx, hy⟩ | ⟨hx, hy0, hy1⟩
      · rw [hx]
        have HY := Lib.hid hy
        clear hx hy
        go_wp2_with fail
        go_ret
        exact ⟨ret_int (by rw [HR.out, HY.out]), HB6.out⟩
      · rw [hx]
        obtain ⟨N, hN⟩ : ∃ N, leastI m qs e = N := ⟨_, rfl⟩
        rw [hN] at hy0 hy1 ⊢
        have HN := Lib.hid hN
        clear hx hN
        go_wp2_with fail
        go_ret
        exact ⟨ret_int (by rw [HR.out, HN.out]), HB6.out⟩
    · have HN := Lib.hid (leastB_no (n := n) (qs := qs) (e := e) (by simp [k]))
      go_enter Try.func16, Try.ntmps16
      go_wp2_with fail
      rw [HW1.out]
      refine (implBookOk_any _ _ _ _ (HV.out w1 (Below.refl _ _))).mono ?_
      rintro r w2 ⟨rfl, b2⟩
      rw [h]
      have HB2 := Lib.hid b2
      have hc2 := HC.out w2 b2
      clear b2
      go_wp2_with fail
      refine (implEventOk_any _ _ _).mono ?_
      rintro r w' ⟨rfl, rfl⟩
      rw [k]
      clear h k
      go_wp2_with fail
      go_ret
      exact ⟨ret_int HN.out.symm, below_step HB1.out HB2.out HB1.out.size⟩
  · have HN := Lib.hid (leastB_no (n := n) (qs := qs) (e := e) (by simp [h]))
    go_enter Try.func16, Try.ntmps16
    go_wp2_with fail
    rw [HW1.out]
    refine (implBookOk_any _ _ _ _ (HV.out w1 (Below.refl _ _))).mono ?_
    rintro r w2 ⟨rfl, b2⟩
    rw [h]
    have HB2 := Lib.hid b2
    have hc2 := HC.out w2 b2
    clear b2
    go_wp2_with fail
    go_ret
    exact ⟨ret_int HN.out.symm, below_step HB1.out HB2.out HB1.out.size⟩

set_option maxRecDepth 100000 in
set_option maxHeartbeats 8000000 in
theorem implMostOn_any (w : World) (n : Int) (v : Value) (qs : List Qt) (e : Int) (hv : QRd w v qs) :
    Calls Try.prog 22 #[.int .i64 n, v, .int .i64 e] w (IntPost (mostB n qs e) w) := by
  obtain ⟨A, c, rfl, hl, hmx⟩ := hv.form
  obtain ⟨w1, hw1⟩ : ∃ w1, w.alloc (.cells #[.int .i64 e] 3) = w1 := ⟨_, rfl⟩
  have hsz1 : w1.heap.size = w.heap.size + 1 := by rw [← hw1]; simp
  have hB1 : Below w.heap.size w w1 := by rw [← hw1]; exact (Below.refl _ _).alloc (Nat.le_refl _) _
  have hc1 : w1.cell? ⟨w.heap.size, 0, none⟩ = some (.int .i64 e) := by rw [← hw1]; exact (new_cell w (.int .i64 e) 3).1
  have HS1 := Lib.hid hsz1
  have HB1 := Lib.hid hB1
  have HW1 := Lib.hid hw1
  have HC : Hid (∀ A', Below w1.heap.size w1 A' → A'.cell? ⟨w.heap.size, 0, none⟩ = some (.int .i64 e)) := Lib.hid (fun A' h => (h.cell (p := ⟨w.heap.size, 0, none⟩) (show w.heap.size < w1.heap.size by omega)).trans hc1)
  have HV : Hid (∀ A', Below w1.heap.size w1 A' → QRd A' (.slice A qs.length c) qs) := Lib.hid (fun A' h => (hv.keep (SameAt.of_below hB1)).keep (SameAt.of_below h))
  clear hv hsz1 hB1 hw1 hc1
  have hc1 := HC.out w1 (Below.refl _ _)
  rcases Bool.eq_false_or_eq_true (bokB n qs) with h | h
  · rcases Bool.eq_false_or_eq_true (evB n e) with k | k
    · have HE := Lib.hid (evB_15 k)
      have HQ := Lib.hid (qts_of h)
      have hw1 : 1 ≤ n := ((bokB_iff _ _).1 h).1.1
      have hw2 : n ≤ 4 := ((bokB_iff _ _).1 h).1.2
      obtain ⟨m, rfl⟩ : ∃ m : Nat, n = m := ⟨n.toNat, by omega⟩
      have hm1 : 1 ≤ m := by omega
      have hm4 : m ≤ 4 := by omega
      have HR : Hid (mostB (m : Int) qs e = mostI m qs e) := Lib.hid (mostB_yes h k)
      go_enter Try.func22, Try.ntmps22
      go_wp2_with fail
      rw [HW1.out]
      refine (implBookOk_any _ _ _ _ (HV.out w1 (Below.refl _ _))).mono ?_
      rintro r w2 ⟨rfl, b2⟩
      rw [h]
      have HB2 := Lib.hid b2
      have hc2 := HC.out w2 b2
      clear b2
      go_wp2_with fail
      refine (implEventOk_any _ _ _).mono ?_
      rintro r w' ⟨rfl, rfl⟩
      rw [k]
      clear h k
      go_wp2_with fail
      refine (fitting_any w2 (m : Int) A _ c).mono ?_
      rintro r w5 ⟨rfl, hw5⟩
      unfold fitV
      obtain ⟨hB5, hsz5, hqs⟩ := id hw5
      have HS5 := Lib.hid hsz5
      have HB5 : Hid (Below w1.heap.size w1 w5) := Lib.hid (below_step HB2.out hB5 HB2.out.size)
      have HSQ : Hid (∀ w0 C, Below w5.heap.size w5 w0 → w5.heap.size ≤ C → C < w0.heap.size → RowWalk 3 Try.prog 111 #[.pointer (some ⟨w2.heap.size + 1, 0, none⟩), .pointer (some ⟨w2.heap.size + 1 + 1, 0, none⟩)] C w0 (fitAll m qs)) := Lib.hid (by
        intro w0 C hb0 hCl hCs
        have h5 := HS5.out
        exact fitWalk_any 3 C w2.heap.size m (.slice A qs.length c) qs w0 (by omega) (by omega) (by omega) hCs (hw5.cells hb0 (by omega))
          (fun A' hA => (HV.out w5 HB5.out).keep ⟨by have := hA.1; have := hb0.size; omega, fun g _ hlt => (hA.2 g (by have := hb0.size; omega) (by omega)).trans (hb0.block g hlt)⟩) HQ.out hm1 hm4)
      clear hw5 hsz5 hB5 hqs
      have hc5 := HC.out w5 HB5.out
      go_wp2_with fail
      refine (foldMost_any w5 (w2.heap.size + 1) (w2.heap.size + 1 + 1) w.heap.size (-1) (mostS e) (fitAll m qs) HSQ.out (fun A' pre x v hA hp hx => ?_)).mono ?_
      · obtain ⟨l, hl, rfl⟩ := pre_mem hp
        exact mostStep_any A' _ v _ e _ (HC.out A' (HB5.out.trans (hA.mono HB5.out.size))) hx (grs_fit hm1 hm4 hl) HE.out.1 HE.out.2
      rintro r w6 ⟨rfl, b6⟩
      have HB6 : Hid (Below w.heap.size w w6) := Lib.hid (below_step (below_step HB1.out HB5.out HB1.out.size) b6 (below_step HB1.out HB5.out HB1.out.size).size)
      clear b6 hc1 hc2 hc5
      rw [most_is (qs := qs) e]
      go_wp2_with fail
      go_ret
      exact ⟨ret_int (by rw [HR.out]), HB6.out⟩
    · have HN := Lib.hid (mostB_no (n := n) (qs := qs) (e := e) (by simp [k]))
      go_enter Try.func22, Try.ntmps22
      go_wp2_with fail
      rw [HW1.out]
      refine (implBookOk_any _ _ _ _ (HV.out w1 (Below.refl _ _))).mono ?_
      rintro r w2 ⟨rfl, b2⟩
      rw [h]
      have HB2 := Lib.hid b2
      have hc2 := HC.out w2 b2
      clear b2
      go_wp2_with fail
      refine (implEventOk_any _ _ _).mono ?_
      rintro r w' ⟨rfl, rfl⟩
      rw [k]
      clear h k
      go_wp2_with fail
      go_ret
      exact ⟨ret_int HN.out.symm, below_step HB1.out HB2.out HB1.out.size⟩
  · have HN := Lib.hid (mostB_no (n := n) (qs := qs) (e := e) (by simp [h]))
    go_enter Try.func22, Try.ntmps22
    go_wp2_with fail
    rw [HW1.out]
    refine (implBookOk_any _ _ _ _ (HV.out w1 (Below.refl _ _))).mono ?_
    rintro r w2 ⟨rfl, b2⟩
    rw [h]
    have HB2 := Lib.hid b2
    have hc2 := HC.out w2 b2
    clear b2
    go_wp2_with fail
    go_ret
    exact ⟨ret_int HN.out.symm, below_step HB1.out HB2.out HB1.out.size⟩

set_option maxHeartbeats 4000000 in
theorem implPinnedOk_any (w : World) (n : Int) (v : Value) (qs : List Qt) (e : Int) (hv : QRd w v qs) :
    Calls Try.prog 27 #[.int .i64 n, v, .int .i64 e] w (BoolPost (pinnedB n qs e) w) := by
  have HV := Lib.hid hv
  clear hv
  obtain ⟨x, hx⟩ : ∃ x, leastB n qs e = x := ⟨_, rfl⟩
  obtain ⟨y, hy⟩ : ∃ y, mostB n qs e = y := ⟨_, rfl⟩
  have HR : Hid (pinnedB n qs e = (decide (0 ≤ x) && decide (x = y))) := Lib.hid (by rw [pinnedB, hx, hy])
  have HX := Lib.hid hx
  have HY := Lib.hid hy
  clear hx hy
  by_cases h0 : 0 ≤ x
  · by_cases h1 : x = y
    all_goals
      go_enter Try.func27, Try.ntmps27
      go_wp2_with fail
      refine (implLeastOn_any w n _ qs e HV.out).mono ?_
      rintro r w2 ⟨rfl, b2⟩
      rw [HX.out]
      have HB2 := Lib.hid b2
      clear b2
      go_wp2_with fail
      refine (implMostOn_any w2 n _ qs e (HV.out.keep (SameAt.of_below HB2.out))).mono ?_
      rintro r w3 ⟨rfl, b3⟩
      rw [HY.out]
      have HB3 := Lib.hid (below_step HB2.out b3 HB2.out.size)
      clear b3
      have h1b : (x == y) = decide (x = y) := by by_cases hh : x = y <;> simp [hh]
      go_wp2_with fail
      go_ret
      exact ⟨ret_bool (by rw [HR.out, decide_eq_true h0]; simp [h1]), HB3.out⟩
  · have h0' : x < 0 := by omega
    have HH : Hid (decide (0 ≤ x) = false) := Lib.hid (decide_eq_false h0)
    clear h0
    go_enter Try.func27, Try.ntmps27
    go_wp2_with fail
    refine (implLeastOn_any w n _ qs e HV.out).mono ?_
    rintro r w2 ⟨rfl, b2⟩
    rw [HX.out]
    have HB2 := Lib.hid b2
    clear b2
    go_wp2_with fail
    go_ret
    exact ⟨ret_bool (by rw [HR.out, HH.out]; rfl), HB2.out⟩

end Go.Proofs.Yteljcicdibbhdaa
