/- Contracts of the program's LeastBrings, FurtherOk. Conditions: a row of quotes that reads as a list. -/
import Derived.Test.YteljcicdibbhdaaTj
namespace Go.Proofs.Yteljcicdibbhdaa
open Go.RowKit Go.Shelf
set_option linter.unusedVariables false
attribute [local go_sem] Oper.semAt_some

set_option maxRecDepth 100000 in
set_option maxHeartbeats 8000000 in
theorem implLeastBrings_any (w : World) (n : Int) (v u0 : Value) (qs : List Qt) (g : List Int) (hv : QRd w v qs) (hu : IRd w u0 g) :
    Calls Try.prog 35 #[.int .i64 n, v, u0] w (NumPost (lbP n qs g).1 (lbP n qs g).2 w) := by
  obtain ⟨A, c, rfl, hl, hmx⟩ := hv.form
  obtain ⟨A2, c2, rfl, hl2, hmx2, -⟩ := id hu
  obtain ⟨w1, hw1⟩ : ∃ w1, w.alloc (.cells #[.slice A2 g.length c2] 41) = w1 := ⟨_, rfl⟩
  have hsz1 : w1.heap.size = w.heap.size + 1 := by rw [← hw1]; simp
  have hB1 : Below w.heap.size w w1 := by rw [← hw1]; exact (Below.refl _ _).alloc (Nat.le_refl _) _
  have hc1 : w1.cell? ⟨w.heap.size, 0, none⟩ = some (.slice A2 g.length c2) := by rw [← hw1]; exact (new_cell w (.slice A2 g.length c2) 41).1
  have HS1 := Lib.hid hsz1
  have HB1 := Lib.hid hB1
  have HW1 := Lib.hid hw1
  have HC : Hid (∀ A', Below w1.heap.size w1 A' → A'.cell? ⟨w.heap.size, 0, none⟩ = some (.slice A2 g.length c2)) := Lib.hid (fun A' h => (h.cell (p := ⟨w.heap.size, 0, none⟩) (show w.heap.size < w1.heap.size by omega)).trans hc1)
  have HV : Hid (∀ A', Below w1.heap.size w1 A' → QRd A' (.slice A qs.length c) qs) := Lib.hid (fun A' h => (hv.keep (SameAt.of_below hB1)).keep (SameAt.of_below h))
  have HU : Hid (∀ A', Below w1.heap.size w1 A' → IRd A' (.slice A2 g.length c2) g) := Lib.hid (fun A' h => (hu.keep (SameAt.of_below hB1)).keep (SameAt.of_below h))
  clear hv hu hsz1 hB1 hw1 hc1
  have hc1 := HC.out w1 (Below.refl _ _)
  rcases Bool.eq_false_or_eq_true (bokB n qs) with h | h
  · rcases Bool.eq_false_or_eq_true (gokB g) with k | k
    · by_cases hlen : (g.length : Int) = n
      · have HQ := Lib.hid (qts_of h)
        have hw1 : 1 ≤ n := ((bokB_iff _ _).1 h).1.1
        have hw2 : n ≤ 4 := ((bokB_iff _ _).1 h).1.2
        obtain ⟨m, rfl⟩ : ∃ m : Nat, n = m := ⟨n.toNat, by omega⟩
        have hm1 : 1 ≤ m := by omega
        have hm4 : m ≤ 4 := by omega
        have HR : Hid (lbP (m : Int) qs g = leastBr m qs g) := Lib.hid (lb_yes (by rw [lbV, h, k, decide_eq_true hlen]; rfl))
        have HG := Lib.hid k
        have HL := Lib.hid hlen
        have hs1 : ((g.length : Int) == (m : Int)) = true := by simp; omega
        have hs2 : ((g.length : Int) != (m : Int)) = false := by simp; omega
        clear hlen
        go_enter Try.func35, Try.ntmps35
        go_wp2_with fail
        rw [HW1.out]
        refine (implBookOk_any _ _ _ _ (HV.out w1 (Below.refl _ _))).mono ?_
        rintro r w2 ⟨rfl, b2⟩
        rw [h]
        have HB2 := Lib.hid b2
        have hc2 := HC.out w2 b2
        clear b2
        go_wp2_with fail
        refine (implGambleOk_any _ _ g (HU.out w2 HB2.out)).mono ?_
        rintro r w' ⟨rfl, rfl⟩
        rw [k]
        clear h k
        go_wp2_with fail
        refine (fitting_any w2 (m : Int) A _ c).mono ?_
        rintro r w5 ⟨rfl, hw5⟩
        unfold fitV
        obtain ⟨hB5, hsz5, hqs⟩ := id hw5
        have HS5 := Lib.hid hsz5
        have HB5 : Hid (Below w1.heap.size w1 w5) := Lib.hid (below_step HB2.out hB5 HB2.out.size)
        have HSQ : Hid (∀ w0 C, Below w5.heap.size w5 w0 → w5.heap.size ≤ C → C < w0.heap.size → RowWalk 3 Try.prog 111 #[.pointer (some ⟨w2.heap.size + 1, 0, none⟩), .pointer (some ⟨w2.heap.size + 1 + 1, 0, none⟩)] C w0 (fitAll m qs)) := Lib.hid (by
          intro w0 C hb0 hCl hCs
          have h5 := HS5.out
          exact fitWalk_any 3 C w2.heap.size m (.slice A qs.length c) qs w0 (by omega) (by omega) (by omega) hCs (hw5.cells hb0 (by omega))
            (fun A' hA => (HV.out w5 HB5.out).keep ⟨by have := hA.1; have := hb0.size; omega, fun g _ hlt => (hA.2 g (by have := hb0.size; omega) (by omega)).trans (hb0.block g hlt)⟩) HQ.out hm1 hm4)
        clear hw5 hsz5 hB5 hqs
        have hc5 := HC.out w5 HB5.out
        clear hs1 hs2
        go_wp2_with fail
        refine (foldBr_any w5 (w2.heap.size + 1) (w2.heap.size + 1 + 1) w.heap.size 36001 (lbS g) (fitAll m qs) HSQ.out (fun A' pre x v hA hp hx => ?_)).mono ?_
        · obtain ⟨l, hl, rfl⟩ := pre_mem hp
          exact lbStep_any A' _ v _ _ g _ (HC.out A' (HB5.out.trans (hA.mono HB5.out.size))) hx (HU.out A' (HB5.out.trans (hA.mono HB5.out.size))) (grs_fit hm1 hm4 hl) HG.out (br_36000 hm1 hm4 hl HG.out HL.out).2
        rintro r w6 ⟨rfl, b6⟩
        have HB6 : Hid (Below w.heap.size w w6) := Lib.hid (below_step (below_step HB1.out HB5.out HB1.out.size) b6 (below_step HB1.out HB5.out HB1.out.size).size)
        clear b6 hc1 hc2 hc5
        rcases lb_is (qs := qs) hm1 hm4 HG.out HL.out with ⟨hx, hy⟩ | ⟨hx, hy0, hy1⟩
        · rw [hx]
          have HY := Lib.hid hy
          clear hx hy
          go_wp2_with fail
          go_ret2
          exact numPost_ret (by rw [HR.out, HY.out]) (by rw [HR.out, HY.out]) HB6.out
        · rw [hx]
          obtain ⟨N, hN⟩ : ∃ N, (leastBr m qs g).1 = N := ⟨_, rfl⟩
          rw [hN] at hy1 ⊢
          have HN := Lib.hid hN
          have HY := Lib.hid hy0
          clear hx hN hy0
          go_wp2_with fail
          go_ret2
          exact numPost_ret (by rw [HR.out, HN.out]) (by rw [HR.out, HY.out]) HB6.out
      · have HN := Lib.hid (lb_no (n := n) (qs := qs) (g := g) (by rw [lbV, decide_eq_false hlen]; simp))
        have hs1 : ((g.length : Int) == n) = false := by simp; omega
        have hs2 : ((g.length : Int) != n) = true := by simp; omega
        clear hlen
        go_enter Try.func35, Try.ntmps35
        go_wp2_with fail
        rw [HW1.out]
        refine (implBookOk_any _ _ _ _ (HV.out w1 (Below.refl _ _))).mono ?_
        rintro r w2 ⟨rfl, b2⟩
        rw [h]
        have HB2 := Lib.hid b2
        have hc2 := HC.out w2 b2
        clear b2
        go_wp2_with fail
        refine (implGambleOk_any _ _ g (HU.out w2 HB2.out)).mono ?_
        rintro r w' ⟨rfl, rfl⟩
        rw [k]
        clear h k
        go_wp2_with fail
        go_ret2
        exact numPost_ret (by rw [HN.out]) (by rw [HN.out]) (below_step HB1.out HB2.out HB1.out.size)
    · have HN := Lib.hid (lb_no (n := n) (qs := qs) (g := g) (by rw [lbV, k]; simp))
      go_enter Try.func35, Try.ntmps35
      go_wp2_with fail
      rw [HW1.out]
      refine (implBookOk_any _ _ _ _ (HV.out w1 (Below.refl _ _))).mono ?_
      rintro r w2 ⟨rfl, b2⟩
      rw [h]
      have HB2 := Lib.hid b2
      have hc2 := HC.out w2 b2
      clear b2
      go_wp2_with fail
      refine (implGambleOk_any _ _ g (HU.out w2 HB2.out)).mono ?_
      rintro r w' ⟨rfl, rfl⟩
      rw [k]
      clear h k
      go_wp2_with fail
      go_ret2
      exact numPost_ret (by rw [HN.out]) (by rw [HN.out]) (below_step HB1.out HB2.out HB1.out.size)
  · have HN := Lib.hid (lb_no (n := n) (qs := qs) (g := g) (by rw [lbV, h]; rfl))
    go_enter Try.func35, Try.ntmps35
    go_wp2_with fail
    rw [HW1.out]
    refine (implBookOk_any _ _ _ _ (HV.out w1 (Below.refl _ _))).mono ?_
    rintro r w2 ⟨rfl, b2⟩
    rw [h]
    have HB2 := Lib.hid b2
    have hc2 := HC.out w2 b2
    clear b2
    go_wp2_with fail
    go_ret2
    exact numPost_ret (by rw [HN.out]) (by rw [HN.out]) (below_step HB1.out HB2.out HB1.out.size)

set_option maxRecDepth 100000 in
set_option maxHeartbeats 8000000 in
theorem implFurtherOk_any (w : World) (n : Int) (v : Value) (qs : List Qt) (q : Qt) (hv : QRd w v qs) :
    Calls Try.prog 31 #[.int .i64 n, v, qV q] w (BoolPost (furB n qs q) w) := by
  obtain ⟨a, b⟩ := q
  unfold qV
  obtain ⟨A, c, rfl, hl, hmx⟩ := hv.form
  obtain ⟨w1, hw1⟩ : ∃ w1, w.alloc (.cells #[.int .i64 a, .int .i64 b] 35) = w1 := ⟨_, rfl⟩
  have hsz1 : w1.heap.size = w.heap.size + 1 := by rw [← hw1]; simp
  have hB1 : Below w.heap.size w w1 := by rw [← hw1]; exact (Below.refl _ _).alloc (Nat.le_refl _) _
  have hc1 : w1.cell? ⟨w.heap.size, 0, none⟩ = some (.int .i64 a) ∧ w1.cell? ⟨w.heap.size, 1, none⟩ = some (.int .i64 b) := by rw [← hw1]; exact box_cells (W := w) (q := (a, b)) (Below.refl _ _)
  have HS1 := Lib.hid hsz1
  have HB1 := Lib.hid hB1
  have HW1 := Lib.hid hw1
  have HC : Hid (∀ A', Below w1.heap.size w1 A' → A'.cell? ⟨w.heap.size, 0, none⟩ = some (.int .i64 a) ∧ A'.cell? ⟨w.heap.size, 1, none⟩ = some (.int .i64 b)) := Lib.hid (fun A' h => ⟨(h.cell (p := ⟨w.heap.size, 0, none⟩) (show w.heap.size < w1.heap.size by omega)).trans hc1.1, (h.cell (p := ⟨w.heap.size, 1, none⟩) (show w.heap.size < w1.heap.size by omega)).trans hc1.2⟩)
  have HV : Hid (∀ A', Below w1.heap.size w1 A' → QRd A' (.slice A qs.length c) qs) := Lib.hid (fun A' h => (hv.keep (SameAt.of_below hB1)).keep (SameAt.of_below h))
  clear hv hsz1 hB1 hw1 hc1
  obtain ⟨hc1, hd1⟩ := HC.out w1 (Below.refl _ _)
  rcases Bool.eq_false_or_eq_true (bokB n qs) with h | h
  · rcases Bool.eq_false_or_eq_true (qokB n (a, b)) with k | k
    · have HQ := Lib.hid (qts_of h)
      have HQ1 : Hid (Qts [(a, b)]) := Lib.hid (fun q hq => by obtain rfl := List.mem_singleton.1 hq; obtain ⟨-, h2, h3, -, -, h4, h5⟩ := qok_true (w := n) (e := a) (p := b) k; exact ⟨⟨h4, h5⟩, h2, h3⟩)
      have hw1 : 1 ≤ n := ((bokB_iff _ _).1 h).1.1
      have hw2 : n ≤ 4 := ((bokB_iff _ _).1 h).1.2
      obtain ⟨m, rfl⟩ : ∃ m : Nat, n = m := ⟨n.toNat, by omega⟩
      have hm1 : 1 ≤ m := by omega
      have hm4 : m ≤ 4 := by omega
      have HF := Lib.hid (fur_is h k)
      go_enter Try.func31, Try.ntmps31
      go_wp2_with fail
      rw [HW1.out]
      refine (implBookOk_any _ _ _ _ (HV.out w1 (Below.refl _ _))).mono ?_
      rintro r w2 ⟨rfl, b2⟩
      rw [h]
      have HB2 := Lib.hid b2
      obtain ⟨hc2, hd2⟩ := HC.out w2 b2
      clear b2
      go_wp2_with fail
      refine (implQuoteOk_any _ (a, b) w2).mono ?_
      rintro r wq ⟨rfl, bq⟩
      rw [k]
      replace HB2 := Lib.hid (below_step HB2.out bq HB2.out.size)
      clear h k bq hc2 hd2 hc1 hd1
      obtain ⟨hcq, hdq⟩ := HC.out wq HB2.out
      go_wp2_with fail
      obtain ⟨w3, hw3⟩ : ∃ w3, (wq.alloc (.cells #[.int .i64 a, .int .i64 b] 35)).alloc (.cells #[.slice (some ⟨wq.heap.size, 0, none⟩) 1 1] 23) = w3 := ⟨_, rfl⟩
      rw [hw3]
      have hsz3 : w3.heap.size = wq.heap.size + 2 := by rw [← hw3]; simp
      have hb3 : Below wq.heap.size wq w3 := by rw [← hw3]; exact ((Below.refl _ _).alloc (Nat.le_refl _) _).alloc (by simp) _
      have HO : Hid (QRd w3 (.slice (some ⟨wq.heap.size, 0, none⟩) 1 1) [(a, b)]) := Lib.hid (by rw [← hw3]; exact (one_rd wq a b).keep (SameAt.of_below ((Below.refl _ _).alloc (Nat.le_refl _) _)))
      have HOC : Hid (w3.cell? ⟨wq.heap.size + 1, 0, none⟩ = some (.slice (some ⟨wq.heap.size, 0, none⟩) 1 1)) := Lib.hid (by
        rw [← hw3]
        have h1 := new_cell (wq.alloc (.cells #[.int .i64 a, .int .i64 b] 35)) (.slice (some ⟨wq.heap.size, 0, none⟩) 1 1) 23
        rw [World.size_alloc] at h1
        exact h1.1)
      have HB3 := Lib.hid (below_step HB2.out hb3 HB2.out.size)
      have HS3 := Lib.hid hsz3
      clear hw3 hb3 hsz3 hcq hdq
      obtain ⟨hc3, hd3⟩ := HC.out w3 HB3.out
      go_wp2_with fail
      refine (fitting_any w3 (m : Int) A _ c).mono ?_
      rintro r w5 ⟨rfl, hw5⟩
      unfold fitV
      obtain ⟨hB5, hsz5, hqs⟩ := id hw5
      have HS5 := Lib.hid hsz5
      have HB35 := Lib.hid hB5
      have HB5 : Hid (Below w1.heap.size w1 w5) := Lib.hid (below_step HB3.out hB5 HB3.out.size)
      have HSQ : Hid (∀ w0 C, Below w5.heap.size w5 w0 → w5.heap.size ≤ C → C < w0.heap.size → RowWalk 3 Try.prog 111 #[.pointer (some ⟨w3.heap.size + 1, 0, none⟩), .pointer (some ⟨w3.heap.size + 1 + 1, 0, none⟩)] C w0 (fitAll m qs)) := Lib.hid (by
        intro w0 C hb0 hCl hCs
        have h5 := HS5.out
        exact fitWalk_any 3 C w3.heap.size m (.slice A qs.length c) qs w0 (by omega) (by omega) (by omega) hCs (hw5.cells hb0 (by omega))
          (fun A' hA => (HV.out w5 HB5.out).keep ⟨by have := hA.1; have := hb0.size; omega, fun g _ hlt => (hA.2 g (by have := hb0.size; omega) (by omega)).trans (hb0.block g hlt)⟩) HQ.out hm1 hm4)
      clear hw5 hsz5 hB5 hqs
      have hc5 : w5.cell? ⟨wq.heap.size + 1, 0, none⟩ = some (.slice (some ⟨wq.heap.size, 0, none⟩) 1 1) := (HB35.out.cell (p := ⟨wq.heap.size + 1, 0, none⟩) (show wq.heap.size + 1 < w3.heap.size by have := HS3.out; omega)).trans HOC.out
      go_wp2_with fail
      refine (foldFur_any w5 (w3.heap.size + 1) (w3.heap.size + 1 + 1) (wq.heap.size + 1) false (furS (a, b)) (fitAll m qs) HSQ.out (fun A' pre x v hA hp hx => ?_)).mono ?_
      · obtain ⟨l, hl, rfl⟩ := pre_mem hp
        have hA3 : Below w3.heap.size w3 A' := HB35.out.trans (hA.mono HB35.out.size)
        exact furStep_any A' _ v _ _ (a, b) _ ((hA3.cell (p := ⟨wq.heap.size + 1, 0, none⟩) (show wq.heap.size + 1 < w3.heap.size by have := HS3.out; omega)).trans HOC.out) hx (HO.out.keep (SameAt.of_below hA3)) (grs_fit hm1 hm4 hl) HQ1.out
      rintro r w6 ⟨rfl, b6⟩
      have HB6 : Hid (Below w.heap.size w w6) := Lib.hid (below_step (below_step HB1.out HB5.out HB1.out.size) b6 (below_step HB1.out HB5.out HB1.out.size).size)
      clear b6 hc5
      rw [HF.out]
      go_wp2_with fail
      go_ret
      exact ⟨ret_bool rfl, HB6.out⟩
    · have HN : Hid (furB n qs (a, b) = false) := Lib.hid (by rw [furB, k]; simp)
      go_enter Try.func31, Try.ntmps31
      go_wp2_with fail
      rw [HW1.out]
      refine (implBookOk_any _ _ _ _ (HV.out w1 (Below.refl _ _))).mono ?_
      rintro r w2 ⟨rfl, b2⟩
      rw [h]
      have HB2 := Lib.hid b2
      obtain ⟨hc2, hd2⟩ := HC.out w2 b2
      clear b2
      go_wp2_with fail
      refine (implQuoteOk_any _ (a, b) w2).mono ?_
      rintro r wq ⟨rfl, bq⟩
      rw [k]
      have HBQ := Lib.hid (below_step HB2.out bq HB2.out.size)
      clear h k bq
      go_wp2_with fail
      go_ret
      exact ⟨ret_bool HN.out.symm, below_step HB1.out HBQ.out HB1.out.size⟩
  · have HN : Hid (furB n qs (a, b) = false) := Lib.hid (by rw [furB, h]; rfl)
    go_enter Try.func31, Try.ntmps31
    go_wp2_with fail
    rw [HW1.out]
    refine (implBookOk_any _ _ _ _ (HV.out w1 (Below.refl _ _))).mono ?_
    rintro r w2 ⟨rfl, b2⟩
    rw [h]
    have HB2 := Lib.hid b2
    obtain ⟨hc2, hd2⟩ := HC.out w2 b2
    clear b2
    go_wp2_with fail
    go_ret
    exact ⟨ret_bool HN.out.symm, below_step HB1.out HB2.out HB1.out.size⟩

end Go.Proofs.Yteljcicdibbhdaa
