/- The walks of the laws of Bayes and of prices made of parts. Conditions: a row of bytes that came in. -/
import Derived.Test.YtghmgnhiglmifaaWp
import Derived.Test.YtghmgnhiglmifaaWe
namespace Go.Proofs.Ytghmgnhiglmifaa
open Go.RowKit
set_option linter.unusedVariables false

theorem mul36 {x y : Int} (hx : 0 ≤ x ∧ x ≤ 36) (hy : 0 ≤ y ∧ y ≤ 36) : 0 ≤ x * y ∧ x * y ≤ 1296 :=
  ⟨Int.mul_nonneg hx.1 hy.1, Int.mul_le_mul hx.2 hy.2 hy.1 (by decide)⟩

theorem mul1296 {x y : Int} (hx : 0 ≤ x ∧ x ≤ 1296) (hy : 0 ≤ y ∧ y ≤ 36) : 0 ≤ x * y ∧ x * y ≤ 46656 :=
  ⟨Int.mul_nonneg hx.1 hy.1, Int.mul_le_mul hx.2 hy.2 hy.1 (by decide)⟩

theorem gr_is {m : List Int} {e : Int} (hm : meaB m = true) (he : evB (m.length : Int) e = true) : grI m e = onI m e := by
  rw [grI, if_pos ⟨hm, he⟩]

set_option maxRecDepth 100000 in
set_option maxHeartbeats 8000000 in
theorem FnBayes_walk (a0 : Option Addr) (len0 cap0 : Nat) (z0 : List Int) (w : World) (w0 : IsRowC .u8 w a0 len0 cap0 z0) :
    Calls Try.prog 8 #[.slice a0 len0 cap0] w fun e w' => e = .returned (.bool true) ∧ Below w.heap.size w w' := by
  by_cases hlen : 1048576 < len0
  · clear w0
    go_enter Try.func8, Try.ntmps8
    go_wp2
    go_ret
    exact ⟨rfl, Below.refl _ _⟩
  · have hlen' : decide (1048576 < len0) = false := by simpa using hlen
    go_enter Try.func8, Try.ntmps8
    go_wp2_with fail
    refine (drawGivenBy_any _ _ _ _ _ w0).mono ?_
    rintro e w1 ⟨vm, m, a, b, rfl, ovm1, hl4, -, a0', a31, b0', b15, B1⟩
    clear hlen hlen' w0
    have HV : Hid (∀ wr, Below w1.heap.size w1 wr → IRd wr vm m) := Lib.hid (fun wr h => ovm1.rd.keep (SameAt.of_below h))
    have HB1 := Lib.hid B1
    have R1 : Hid (Below w1.heap.size w1 w1) := Lib.hid (Below.refl _ _)
    clear ovm1 B1
    rcases Bool.eq_false_or_eq_true (givB m a b) with h1 | h1
    · rcases Bool.eq_false_or_eq_true (givB m b a) with h2 | h2
      · obtain ⟨hm, hea, heb, -⟩ := (givB_iff m a b).1 h1
        obtain ⟨E1, d0, q0⟩ := giv_bayes h1 h2
        have na := giv_bounds m a b
        have nb := giv_bounds m b a
        have ga := mea_on hm a
        have gb := mea_on hm b
        have G1 := Lib.hid (gr_is hm hea)
        have G2 := Lib.hid (gr_is hm heb)
        have HM := Lib.hid hm
        have HT1 := Lib.hid h1
        have HT2 := Lib.hid h2
        obtain ⟨n, hn⟩ : ∃ n, givN m a b = n := ⟨_, rfl⟩
        obtain ⟨d, hd⟩ : ∃ n, givD m a b = n := ⟨_, rfl⟩
        obtain ⟨p, hp⟩ : ∃ n, givN m b a = n := ⟨_, rfl⟩
        obtain ⟨q, hq⟩ : ∃ n, givD m b a = n := ⟨_, rfl⟩
        obtain ⟨x, hx⟩ : ∃ n, onI m a = n := ⟨_, rfl⟩
        obtain ⟨y, hy⟩ : ∃ n, onI m b = n := ⟨_, rfl⟩
        rw [hn, hd, hp, hq, hx, hy] at E1
        rw [hn, hd] at na
        rw [hp, hq] at nb
        rw [hx] at ga
        rw [hy] at gb
        rw [hd] at d0
        rw [hq] at q0
        have HN := Lib.hid hn
        have HD := Lib.hid hd
        have HP := Lib.hid hp
        have HQ := Lib.hid hq
        have HX := Lib.hid hx
        have HY := Lib.hid hy
        have t1 := mul36 ⟨na.1, na.2.1⟩ gb
        have t2 := mul1296 t1 ⟨nb.2.2.1, nb.2.2.2⟩
        have t3 := mul36 ⟨nb.1, nb.2.1⟩ ga
        have t4 := mul1296 t3 ⟨na.2.2.1, na.2.2.2⟩
        have hw1 : IntKind.i64.wrap (n * y) = n * y := IntWalk.i64_in _ (by omega)
        have hw2 : IntKind.i64.wrap (n * y * q) = n * y * q := IntWalk.i64_in _ (by omega)
        have hw3 : IntKind.i64.wrap (p * x) = p * x := IntWalk.i64_in _ (by omega)
        have hw4 : IntKind.i64.wrap (p * x * d) = p * x * d := IntWalk.i64_in _ (by omega)
        have hE : (n * y * q == p * x * d) = true := by rw [beq_iff_eq]; exact E1
        clear h1 h2 hm hea heb hn hd hp hq hx hy E1 t1 t2 t3 t4 na nb ga gb
        go_wp2_with fail
        refine (implGivenBy_any _ _ m a b (HV.out _ R1.out)).mono ?_
        rintro r w2 ⟨rfl, b'⟩
        rw [HN.out, HD.out, HT1.out]
        have R2 := Lib.hid (below_step R1.out b' R1.out.size)
        clear b' R1
        go_wp2_with fail
        refine (implGivenBy_any _ _ m b a (HV.out _ R2.out)).mono ?_
        rintro r w3 ⟨rfl, b'⟩
        rw [HP.out, HQ.out, HT2.out]
        have R3 := Lib.hid (below_step R2.out b' R2.out.size)
        clear b' R2
        go_wp2_with fail
        refine (specMeasureOk_any _ _ _ (HV.out _ R3.out)).mono ?_
        rintro r w' ⟨rfl, rfl⟩
        rw [HM.out]
        go_wp2_with fail
        refine (implGrainsOn_any _ _ m b (HV.out _ R3.out)).mono ?_
        rintro r w4 ⟨rfl, b'⟩
        rw [G2.out, HY.out]
        have R4 := Lib.hid (below_step R3.out b' R3.out.size)
        clear b' R3
        go_wp2_with fail
        refine (implGrainsOn_any _ _ m a (HV.out _ R4.out)).mono ?_
        rintro r w5 ⟨rfl, b'⟩
        rw [G1.out, HX.out]
        have R5 := Lib.hid (below_step R4.out b' R4.out.size)
        clear b' R4
        go_wp2_with fail
        go_ret
        exact ⟨ret_bool (by simp), below_step HB1.out R5.out HB1.out.size⟩
      · have HT1 := Lib.hid h1
        have HT2 := Lib.hid h2
        clear h1 h2
        go_wp2_with fail
        refine (implGivenBy_any _ _ m a b (HV.out _ R1.out)).mono ?_
        rintro r w2 ⟨rfl, b'⟩
        rw [HT1.out]
        have R2 := Lib.hid (below_step R1.out b' R1.out.size)
        clear b' R1
        go_wp2_with fail
        refine (implGivenBy_any _ _ m b a (HV.out _ R2.out)).mono ?_
        rintro r w3 ⟨rfl, b'⟩
        rw [HT2.out]
        have R3 := Lib.hid (below_step R2.out b' R2.out.size)
        clear b' R2
        go_wp2_with fail
        refine (alive_any _).mono ?_
        rintro r w' ⟨rfl, rfl⟩
        go_wp2_with fail
        go_ret
        exact ⟨ret_bool (by simp), below_step HB1.out R3.out HB1.out.size⟩
    · have HT1 := Lib.hid h1
      clear h1
      go_wp2_with fail
      refine (implGivenBy_any _ _ m a b (HV.out _ R1.out)).mono ?_
      rintro r w2 ⟨rfl, b'⟩
      rw [HT1.out]
      have R2 := Lib.hid (below_step R1.out b' R1.out.size)
      clear b' R1
      obtain ⟨t, ht⟩ : ∃ t, givB m b a = t := ⟨_, rfl⟩
      have HT2 := Lib.hid ht
      clear ht
      go_wp2_with fail
      refine (implGivenBy_any _ _ m b a (HV.out _ R2.out)).mono ?_
      rintro r w3 ⟨rfl, b'⟩
      rw [HT2.out]
      have R3 := Lib.hid (below_step R2.out b' R2.out.size)
      clear b' R2
      go_wp2_with fail
      refine (alive_any _).mono ?_
      rintro r w' ⟨rfl, rfl⟩
      go_wp2_with fail
      go_ret
      exact ⟨ret_bool (by simp), below_step HB1.out R3.out HB1.out.size⟩

set_option maxRecDepth 100000 in
set_option maxHeartbeats 8000000 in
theorem FnTotal_walk (a0 : Option Addr) (len0 cap0 : Nat) (z0 : List Int) (w : World) (w0 : IsRowC .u8 w a0 len0 cap0 z0) :
    Calls Try.prog 7 #[.slice a0 len0 cap0] w fun e w' => e = .returned (.bool true) ∧ Below w.heap.size w w' := by
  by_cases hlen : 1048576 < len0
  · clear w0
    go_enter Try.func7, Try.ntmps7
    go_wp2
    go_ret
    exact ⟨rfl, Below.refl _ _⟩
  · have hlen' : decide (1048576 < len0) = false := by simpa using hlen
    go_enter Try.func7, Try.ntmps7
    go_wp2_with fail
    refine (drawGivenBy_any _ _ _ _ _ w0).mono ?_
    rintro e w1 ⟨vm, m, a, b, rfl, ovm1, hl4, -, a0', a31, b0', b15, B1⟩
    clear hlen hlen' w0
    have HV : Hid (∀ wr, Below w1.heap.size w1 wr → IRd wr vm m) := Lib.hid (fun wr h => ovm1.rd.keep (SameAt.of_below h))
    have HB1 := Lib.hid B1
    have R1 : Hid (Below w1.heap.size w1 w1) := Lib.hid (Below.refl _ _)
    clear ovm1 B1
    obtain ⟨A, c, rfl, hlA, hmA, -⟩ := id (HV.out _ R1.out)
    rcases Bool.eq_false_or_eq_true (meaB m) with h1 | h1
    · rcases Bool.eq_false_or_eq_true (evB (m.length : Int) a) with h2 | h2
      · rcases Bool.eq_false_or_eq_true (evB (m.length : Int) b) with h3 | h3
        · obtain ⟨E1, O1⟩ := total_is h1 h2 h3
          have ga := mea_on h1 a
          have gb := mea_on h1 b
          have gz := mea_on h1 (notI (m.length : Int) b)
          have GA := Lib.hid (gr_is h1 h2)
          have GB := Lib.hid (gr_is h1 h3)
          have GZ0 := gr_is h1 (not_ev h3)
          obtain ⟨z, hz⟩ : ∃ z, notI (m.length : Int) b = z := ⟨_, rfl⟩
          rw [hz] at E1 O1 gz GZ0
          have GZ := Lib.hid GZ0
          have HZ := Lib.hid hz
          clear GZ0
          obtain ⟨x, hx⟩ : ∃ n, onI m a = n := ⟨_, rfl⟩
          obtain ⟨y, hy⟩ : ∃ n, onI m b = n := ⟨_, rfl⟩
          obtain ⟨u, hu⟩ : ∃ n, onI m z = n := ⟨_, rfl⟩
          obtain ⟨n, hn⟩ : ∃ n, givN m a b = n := ⟨_, rfl⟩
          obtain ⟨d, hd⟩ : ∃ n, givD m a b = n := ⟨_, rfl⟩
          obtain ⟨p, hp⟩ : ∃ n, givN m a z = n := ⟨_, rfl⟩
          obtain ⟨q, hq⟩ : ∃ n, givD m a z = n := ⟨_, rfl⟩
          obtain ⟨s, hs⟩ : ∃ s, givB m a b = s := ⟨_, rfl⟩
          obtain ⟨t, ht⟩ : ∃ s, givB m a z = s := ⟨_, rfl⟩
          have HT1 := Lib.hid hs
          have HT2 := Lib.hid ht
          have HY := Lib.hid hy
          have HU := Lib.hid hu
          have HN := Lib.hid hn
          have HD := Lib.hid hd
          have HP := Lib.hid hp
          have HQ := Lib.hid hq
          rw [hx] at E1 ga
          rw [hy] at gb
          rw [hu] at gz
          clear hs ht
          go_wp2_with fail
          refine (specMeasureOk_any _ _ _ (HV.out _ R1.out)).mono ?_
          rintro r w' ⟨rfl, rfl⟩
          rw [h1]
          go_wp2_with fail
          refine (specEventOk_any _ _ _).mono ?_
          rintro r w' ⟨rfl, rfl⟩
          rw [h2]
          go_wp2_with fail
          refine (specEventOk_any _ _ _).mono ?_
          rintro r w' ⟨rfl, rfl⟩
          rw [h3]
          go_wp2_with fail
          refine (implNotEvent_any _ _ _).mono ?_
          rintro r w' ⟨rfl, rfl⟩
          rw [HZ.out]
          cases s
          · cases t
            · rw [HT1.out, HT2.out] at O1
              cases O1
            · have s2 := giv_total HT2.out
              have r2 := mea_on h1 (andI a z)
              obtain ⟨g', hg', -, -, p0, p1, q1, q2⟩ := giv_scale HT2.out
              rw [hu, hp, hq] at s2
              rw [hp, hq] at p1
              rw [hp] at p0
              rw [hq] at q1 q2
              rw [show max q 1 = q from by omega] at s2
              obtain ⟨k, hk⟩ : ∃ k, onI m (andI a z) = k := ⟨_, rfl⟩
              rw [hk] at s2 r2
              have t2 := mul36 gz (show 0 ≤ p ∧ p ≤ 36 by omega)
              have hw2 : IntKind.i64.wrap (u * p) = u * p := IntWalk.i64_in _ (by omega)
              have hq2 : (u * p).tdiv q = k := by rw [Int.tdiv_eq_ediv_of_nonneg t2.1]; exact s2
              have hv3 : wrap64 k = k := IntWalk.wrap64_in _ (by omega)
              have hv4 : IntKind.i64.wrap k = k := IntWalk.i64_in _ (by omega)
              have hq0 : ¬ (q = 0) := by omega
              have hqn : (q == 0) = false := by rw [beq_eq_false_iff_ne]; exact hq0
              rw [HT1.out, HT2.out, hk] at E1
              have E2 : 0 + k = x := E1
              obtain rfl : k = x := by omega
              have HX := Lib.hid hx
              clear h1 h2 h3 hx hy hu hn hd hp hq hz gb gz ga E1 E2 O1 s2 r2 hg' p0 p1 q2 hk t2
              go_wp2_with fail
              refine (implGivenBy_any _ _ m a b (HV.out _ R1.out)).mono ?_
              rintro r w2 ⟨rfl, b'⟩
              rw [HN.out, HD.out, HT1.out]
              have R2 := Lib.hid (below_step R1.out b' R1.out.size)
              clear b' R1
              go_wp2_with fail
              refine (implGivenBy_any _ _ m a z (HV.out _ R2.out)).mono ?_
              rintro r w3 ⟨rfl, b'⟩
              rw [HP.out, HQ.out, HT2.out]
              have R3 := Lib.hid (below_step R2.out b' R2.out.size)
              clear b' R2
              go_wp2_with fail
              refine (implGrainsOn_any _ _ m z (HV.out _ R3.out)).mono ?_
              rintro r w4 ⟨rfl, b'⟩
              rw [GZ.out, HU.out]
              have R4 := Lib.hid (below_step R3.out b' R3.out.size)
              clear b' R3
              go_wp2_with fail
              refine (implGrainsOn_any _ _ m a (HV.out _ R4.out)).mono ?_
              rintro r w5 ⟨rfl, b'⟩
              rw [GA.out, HX.out]
              have R5 := Lib.hid (below_step R4.out b' R4.out.size)
              clear b' R4
              go_wp2_with fail
              go_ret
              exact ⟨ret_bool (by simp), below_step HB1.out R5.out HB1.out.size⟩
          · cases t
            · have s1 := giv_total HT1.out
              have r1 := mea_on h1 (andI a b)
              obtain ⟨g, hg, -, -, n0, n1, d1, d2⟩ := giv_scale HT1.out
              rw [hy, hn, hd] at s1
              rw [hn, hd] at n1
              rw [hn] at n0
              rw [hd] at d1 d2
              rw [show max d 1 = d from by omega] at s1
              obtain ⟨f, hf⟩ : ∃ f, onI m (andI a b) = f := ⟨_, rfl⟩
              rw [hf] at s1 r1
              have t1 := mul36 gb (show 0 ≤ n ∧ n ≤ 36 by omega)
              have hw1 : IntKind.i64.wrap (y * n) = y * n := IntWalk.i64_in _ (by omega)
              have hq1 : (y * n).tdiv d = f := by rw [Int.tdiv_eq_ediv_of_nonneg t1.1]; exact s1
              have hv1 : wrap64 f = f := IntWalk.wrap64_in _ (by omega)
              have hv2 : IntKind.i64.wrap f = f := IntWalk.i64_in _ (by omega)
              have hd0 : ¬ (d = 0) := by omega
              have hdn : (d == 0) = false := by rw [beq_eq_false_iff_ne]; exact hd0
              rw [HT1.out, HT2.out, hf] at E1
              have E2 : f + 0 = x := E1
              obtain rfl : f = x := by omega
              have HX := Lib.hid hx
              clear h1 h2 h3 hx hy hu hn hd hp hq hz gb gz ga E1 E2 O1 s1 r1 hg n0 n1 d2 hf t1
              go_wp2_with fail
              refine (implGivenBy_any _ _ m a b (HV.out _ R1.out)).mono ?_
              rintro r w2 ⟨rfl, b'⟩
              rw [HN.out, HD.out, HT1.out]
              have R2 := Lib.hid (below_step R1.out b' R1.out.size)
              clear b' R1
              go_wp2_with fail
              refine (implGivenBy_any _ _ m a z (HV.out _ R2.out)).mono ?_
              rintro r w3 ⟨rfl, b'⟩
              rw [HP.out, HQ.out, HT2.out]
              have R3 := Lib.hid (below_step R2.out b' R2.out.size)
              clear b' R2
              go_wp2_with fail
              refine (implGrainsOn_any _ _ m b (HV.out _ R3.out)).mono ?_
              rintro r w4 ⟨rfl, b'⟩
              rw [GB.out, HY.out]
              have R4 := Lib.hid (below_step R3.out b' R3.out.size)
              clear b' R3
              go_wp2_with fail
              refine (implGrainsOn_any _ _ m a (HV.out _ R4.out)).mono ?_
              rintro r w5 ⟨rfl, b'⟩
              rw [GA.out, HX.out]
              have R5 := Lib.hid (below_step R4.out b' R4.out.size)
              clear b' R4
              go_wp2_with fail
              go_ret
              exact ⟨ret_bool (by simp), below_step HB1.out R5.out HB1.out.size⟩
            · have s1 := giv_total HT1.out
              have r1 := mea_on h1 (andI a b)
              obtain ⟨g, hg, -, -, n0, n1, d1, d2⟩ := giv_scale HT1.out
              rw [hy, hn, hd] at s1
              rw [hn, hd] at n1
              rw [hn] at n0
              rw [hd] at d1 d2
              rw [show max d 1 = d from by omega] at s1
              obtain ⟨f, hf⟩ : ∃ f, onI m (andI a b) = f := ⟨_, rfl⟩
              rw [hf] at s1 r1
              have t1 := mul36 gb (show 0 ≤ n ∧ n ≤ 36 by omega)
              have hw1 : IntKind.i64.wrap (y * n) = y * n := IntWalk.i64_in _ (by omega)
              have hq1 : (y * n).tdiv d = f := by rw [Int.tdiv_eq_ediv_of_nonneg t1.1]; exact s1
              have hv1 : wrap64 f = f := IntWalk.wrap64_in _ (by omega)
              have hv2 : IntKind.i64.wrap f = f := IntWalk.i64_in _ (by omega)
              have hd0 : ¬ (d = 0) := by omega
              have hdn : (d == 0) = false := by rw [beq_eq_false_iff_ne]; exact hd0
              have s2 := giv_total HT2.out
              have r2 := mea_on h1 (andI a z)
              obtain ⟨g', hg', -, -, p0, p1, q1, q2⟩ := giv_scale HT2.out
              rw [hu, hp, hq] at s2
              rw [hp, hq] at p1
              rw [hp] at p0
              rw [hq] at q1 q2
              rw [show max q 1 = q from by omega] at s2
              obtain ⟨k, hk⟩ : ∃ k, onI m (andI a z) = k := ⟨_, rfl⟩
              rw [hk] at s2 r2
              have t2 := mul36 gz (show 0 ≤ p ∧ p ≤ 36 by omega)
              have hw2 : IntKind.i64.wrap (u * p) = u * p := IntWalk.i64_in _ (by omega)
              have hq2 : (u * p).tdiv q = k := by rw [Int.tdiv_eq_ediv_of_nonneg t2.1]; exact s2
              have hv3 : wrap64 k = k := IntWalk.wrap64_in _ (by omega)
              have hv4 : IntKind.i64.wrap k = k := IntWalk.i64_in _ (by omega)
              have hq0 : ¬ (q = 0) := by omega
              have hqn : (q == 0) = false := by rw [beq_eq_false_iff_ne]; exact hq0
              rw [HT1.out, HT2.out, hf, hk] at E1
              have E2 : f + k = x := E1
              have hv5 : IntKind.i64.wrap (f + k) = f + k := IntWalk.i64_in _ (by omega)
              have hE : (f + k == x) = true := by rw [beq_iff_eq]; exact E2
              have HX := Lib.hid hx
              clear h1 h2 h3 hx hy hu hn hd hp hq hz gb gz ga E1 E2 O1 s1 r1 hg n0 n1 d2 hf t1 s2 r2 hg' p0 p1 q2 hk t2
              go_wp2_with fail
              refine (implGivenBy_any _ _ m a b (HV.out _ R1.out)).mono ?_
              rintro r w2 ⟨rfl, b'⟩
              rw [HN.out, HD.out, HT1.out]
              have R2 := Lib.hid (below_step R1.out b' R1.out.size)
              clear b' R1
              go_wp2_with fail
              refine (implGivenBy_any _ _ m a z (HV.out _ R2.out)).mono ?_
              rintro r w3 ⟨rfl, b'⟩
              rw [HP.out, HQ.out, HT2.out]
              have R3 := Lib.hid (below_step R2.out b' R2.out.size)
              clear b' R2
              go_wp2_with fail
              refine (implGrainsOn_any _ _ m b (HV.out _ R3.out)).mono ?_
              rintro r w4 ⟨rfl, b'⟩
              rw [GB.out, HY.out]
              have R4 := Lib.hid (below_step R3.out b' R3.out.size)
              clear b' R3
              go_wp2_with fail
              refine (implGrainsOn_any _ _ m z (HV.out _ R4.out)).mono ?_
              rintro r w5 ⟨rfl, b'⟩
              rw [GZ.out, HU.out]
              have R5 := Lib.hid (below_step R4.out b' R4.out.size)
              clear b' R4
              go_wp2_with fail
              refine (implGrainsOn_any _ _ m a (HV.out _ R5.out)).mono ?_
              rintro r w6 ⟨rfl, b'⟩
              rw [GA.out, HX.out]
              have R6 := Lib.hid (below_step R5.out b' R5.out.size)
              clear b' R5
              go_wp2_with fail
              go_ret
              exact ⟨ret_bool (by simp), below_step HB1.out R6.out HB1.out.size⟩
        · skip
          go_wp2_with fail
          refine (specMeasureOk_any _ _ _ (HV.out _ R1.out)).mono ?_
          rintro r w' ⟨rfl, rfl⟩
          rw [h1]
          go_wp2_with fail
          refine (specEventOk_any _ _ _).mono ?_
          rintro r w' ⟨rfl, rfl⟩
          rw [h2]
          go_wp2_with fail
          refine (specEventOk_any _ _ _).mono ?_
          rintro r w' ⟨rfl, rfl⟩
          rw [h3]
          go_wp2_with fail
          refine (alive_any _).mono ?_
          rintro r w' ⟨rfl, rfl⟩
          go_wp2_with fail
          go_ret
          exact ⟨ret_bool (by simp), below_step HB1.out R1.out HB1.out.size⟩
      · skip
        go_wp2_with fail
        refine (specMeasureOk_any _ _ _ (HV.out _ R1.out)).mono ?_
        rintro r w' ⟨rfl, rfl⟩
        rw [h1]
        go_wp2_with fail
        refine (specEventOk_any _ _ _).mono ?_
        rintro r w' ⟨rfl, rfl⟩
        rw [h2]
        go_wp2_with fail
        refine (alive_any _).mono ?_
        rintro r w' ⟨rfl, rfl⟩
        go_wp2_with fail
        go_ret
        exact ⟨ret_bool (by simp), below_step HB1.out R1.out HB1.out.size⟩
    · skip
      go_wp2_with fail
      refine (specMeasureOk_any _ _ _ (HV.out _ R1.out)).mono ?_
      rintro r w' ⟨rfl, rfl⟩
      rw [h1]
      go_wp2_with fail
      refine (alive_any _).mono ?_
      rintro r w' ⟨rfl, rfl⟩
      go_wp2_with fail
      go_ret
      exact ⟨ret_bool (by simp), below_step HB1.out R1.out HB1.out.size⟩

end Go.Proofs.Ytghmgnhiglmifaa
