/- The walks of the laws of ScoreOf, ExpectedScore, FarApart. Conditions: rows of bytes that came in. (gen_fh.py) -/
import Derived.Test.YtnkgnhnggjoglaaFp
import Derived.Test.YtnkgnhnggjoglaaFf
import Derived.Test.YtnkgnhnggjoglaaMi
import Derived.Test.YtnkgnhnggjoglaaEv2
namespace Go.Proofs.Ytnkgnhnggjoglaa
open Go.RowKit
set_option linter.unusedVariables false

theorem scB_iff (m : List Int) (x : Int) : scB m x = true ↔ meaB m = true ∧ 0 ≤ x ∧ x ≤ (m.length : Int) - 1 := by
  rw [scB, Bool.and_eq_true, inB_iff]

theorem two_self {a b : List Int} (h : twoB a b = true) : twoB a a = true ∧ twoB b a = true := by
  obtain ⟨h1, h2, h3⟩ := (twoB_iff a b).1 h
  exact ⟨(twoB_iff a a).2 ⟨h1, h1, rfl⟩, (twoB_iff b a).2 ⟨h2, h1, h3.symm⟩⟩

theorem mix_two_ {a b : List Int} (h : mixB a b = true) : mixR a b = mixL a b ∧ evenB a b = true ∧ twoB a (mixL a b) = true := by
  obtain ⟨h1, h2, -⟩ := mix_mea h
  refine ⟨by rw [mixR, if_pos h], ?_, ?_⟩
  · simp only [mixB, Bool.and_eq_true] at h; exact h.2
  · simp only [mixB, Bool.and_eq_true] at h
    exact (twoB_iff _ _).2 ⟨h.1.1.1, h1, h2.symm⟩

set_option maxRecDepth 100000 in
set_option maxHeartbeats 8000000 in
theorem FnScoreOf_walk (a0 : Option Addr) (len0 cap0 : Nat) (z0 : List Int) (w : World) (w0 : IsRowC .u8 w a0 len0 cap0 z0) :
    Calls Try.prog 3 #[.slice a0 len0 cap0] w fun e w' => e = .returned (.bool true) ∧ Below w.heap.size w w' := by
  by_cases hlen : 1048576 < len0
  · clear w0
    go_enter Try.func3, Try.ntmps3
    go_wp2
    go_ret
    exact ⟨rfl, Below.refl _ _⟩
  · have hlen' : decide (1048576 < len0) = false := by simpa using hlen
    go_enter Try.func3, Try.ntmps3
    go_wp2_with fail
    refine (drawScoreOf_any _ _ _ _ _ w0).mono ?_
    rintro e w1 ⟨v, xs, x, rfl, ov, hl4, B1⟩
    have HB1 := Lib.hid B1
    have ord := ov.rd
    obtain ⟨A, c, rfl, hl, hmx, -⟩ := id ord
    have HV : Hid (∀ wr, Below w1.heap.size w1 wr → IRd wr (.slice A xs.length c) xs) := Lib.hid (fun wr hb => ord.keep (SameAt.of_below hb))
    clear ord ov B1 w0
    rcases Bool.eq_false_or_eq_true (scB xs x) with h | h
    · obtain ⟨hm, x0, x1⟩ := (scB_iff xs x).1 h
      obtain ⟨u, rfl⟩ : ∃ u : Nat, x = u := ⟨x.toNat, by omega⟩
      have hu : u < xs.length := by omega
      have hu' : (u : Int) < (xs.length : Int) := by omega
      have hu0 : (0 : Int) ≤ (u : Int) := by omega
      obtain ⟨z1, z2⟩ := sc_zero hm hu
      have z3 := sc_nonneg xs (u : Int)
      obtain ⟨n, hn⟩ : ∃ n, scI xs (u : Int) = n := ⟨_, rfl⟩
      have HR : Hid (scR xs (u : Int) = n) := Lib.hid (by rw [scR, if_pos h, hn])
      rw [hn] at z2 z3
      have Z1 := Lib.hid z1
      have HN := Lib.hid hn
      clear h hm z1 hn
      have C1 := Lib.hid (Below.refl w1.heap.size w1)
      go_wp2_with fail
      refine (implScoreOf_any w1 _ xs (u : Int) (HV.out w1 C1.out)).mono ?_
      rintro e w2 ⟨rfl, b2⟩
      rw [HR.out]
      have C2 := Lib.hid (below_step C1.out b2 C1.out.size)
      clear b2
      go_wp2_with fail
      refine (specScoreOf_any w2 _ xs (u : Int) (HV.out w2 C2.out)).mono ?_
      rintro e w' ⟨rfl, rfl⟩
      rw [HR.out]
      obtain ⟨b, off, y, rfl, -, hy, hcy⟩ := (HV.out w2 C2.out).at_ hu
      have hya := at0_of hy
      have z1 := Z1.out
      rw [hya] at z1
      have hn := HN.out
      clear hy Z1 HN
      by_cases h0 : n = 0
      · have hya : True := trivial
        obtain rfl : y = 36 := z1.1 (hn.trans h0)
        subst h0
        clear z1 hn
        go_wp2_with fail
        refine (alive_any _).mono ?_
        rintro e w' ⟨rfl, rfl⟩

        go_wp2_with fail
        go_ret
        exact ⟨rfl, below_step HB1.out C2.out HB1.out.size⟩
      · have hya : y = y := rfl
        have hn0 : (n == 0) = false := by simpa using h0
        have hy36 : (y == 36) = false := by
          have : ¬ y = 36 := fun e => h0 (by have := z1.2 e; omega)
          simpa using this
        clear z1 hn h0
        go_wp2_with fail
        refine (alive_any _).mono ?_
        rintro e w' ⟨rfl, rfl⟩

        go_wp2_with fail
        go_ret
        exact ⟨rfl, below_step HB1.out C2.out HB1.out.size⟩
    · have HR : Hid (scR xs x = -1) := Lib.hid (by rw [scR, h]; rfl)
      clear h
      have C1 := Lib.hid (Below.refl w1.heap.size w1)
      go_wp2_with fail
      refine (implScoreOf_any w1 _ xs x (HV.out w1 C1.out)).mono ?_
      rintro e w2 ⟨rfl, b2⟩
      rw [HR.out]
      have C2 := Lib.hid (below_step C1.out b2 C1.out.size)
      clear b2
      go_wp2_with fail
      refine (specScoreOf_any w2 _ xs x (HV.out w2 C2.out)).mono ?_
      rintro e w' ⟨rfl, rfl⟩
      rw [HR.out]
      go_wp2_with fail
      refine (alive_any _).mono ?_
      rintro e w' ⟨rfl, rfl⟩

      go_wp2_with fail
      go_ret
      exact ⟨rfl, below_step HB1.out C2.out HB1.out.size⟩

set_option maxRecDepth 100000 in
set_option maxHeartbeats 8000000 in
theorem FnExpectedScore_walk (a0 : Option Addr) (len0 cap0 : Nat) (z0 : List Int) (w : World) (w0 : IsRowC .u8 w a0 len0 cap0 z0) :
    Calls Try.prog 4 #[.slice a0 len0 cap0] w fun e w' => e = .returned (.bool true) ∧ Below w.heap.size w w' := by
  by_cases hlen : 1048576 < len0
  · clear w0
    go_enter Try.func4, Try.ntmps4
    go_wp2
    go_ret
    exact ⟨rfl, Below.refl _ _⟩
  · have hlen' : decide (1048576 < len0) = false := by simpa using hlen
    go_enter Try.func4, Try.ntmps4
    go_wp2_with fail
    refine (drawExpectedScore_any _ _ _ _ _ w0).mono ?_
    rintro e w1 ⟨v, u, xs, ys, rfl, ov, ou, hl4, hl5, B1, -⟩
    have HB1 := Lib.hid B1
    have ord := ov.rd
    have our := ou.rd
    obtain ⟨A, c, rfl, hl, hmx, -⟩ := id ord
    have HV : Hid (∀ wr, Below w1.heap.size w1 wr → IRd wr (.slice A xs.length c) xs) := Lib.hid (fun wr hb => ord.keep (SameAt.of_below hb))
    obtain ⟨A2, c2, rfl, hl2, hmx2, -⟩ := id our
    have HV2 : Hid (∀ wr, Below w1.heap.size w1 wr → IRd wr (.slice A2 ys.length c2) ys) := Lib.hid (fun wr hb => our.keep (SameAt.of_below hb))
    clear ord our ov ou B1 w0
    rcases Bool.eq_false_or_eq_true (twoB xs ys) with h | h
    · obtain ⟨h1, h2, h3⟩ := (twoB_iff xs ys).1 h
      have e1 := exp_far h1 h3
      have e2 := exp_bound h1 h2 h3
      have e3 := exp_bound h1 h1 rfl
      have e4 := far_nonneg xs ys
      have e5 := far_bound h1 h2 h3
      obtain ⟨n, hn⟩ : ∃ n, expI xs ys = n := ⟨_, rfl⟩
      obtain ⟨m, hm⟩ : ∃ m, expI xs xs = m := ⟨_, rfl⟩
      obtain ⟨f, hf⟩ : ∃ f, farI xs ys = f := ⟨_, rfl⟩
      have HR : Hid (expR xs ys = n) := Lib.hid (by rw [expR, if_pos h, hn])
      have HO : Hid (expR xs xs = m) := Lib.hid (by rw [expR, if_pos (two_self h).1, hm])
      have HFR : Hid (farR xs ys = f) := Lib.hid (by rw [farR, if_pos h, hf])
      rw [hn, hm, hf] at e1
      rw [hn] at e2
      rw [hm] at e3
      rw [hf] at e4 e5
      have q1 : IntKind.i64.wrap (36 * f) = 36 * f := IntWalk.i64_in _ (by omega)
      have q2 : IntKind.i64.wrap (m + 36 * f) = n := by rw [← e1]; exact IntWalk.i64_in _ (by omega)
      have n0 : 0 ≤ n := e2.1
      have m0 : 0 ≤ m := e3.1
      clear h h1 h2 h3 hn hm hf e1 e2 e3
      have C1 := Lib.hid (Below.refl w1.heap.size w1)
      go_wp2_with fail
      refine (implExpectedScore_any w1 _ _ xs ys (HV.out w1 C1.out) (HV2.out w1 C1.out)).mono ?_
      rintro e w2 ⟨rfl, b2⟩
      rw [HR.out]
      have C2 := Lib.hid (below_step C1.out b2 C1.out.size)
      clear b2
      go_wp2_with fail
      refine (specExpectedScore_any w2 _ _ xs ys (HV.out w2 C2.out) (HV2.out w2 C2.out)).mono ?_
      rintro e w3 ⟨rfl, b3⟩
      rw [HR.out]
      have C3 := Lib.hid (below_step C2.out b3 C2.out.size)
      clear b3
      go_wp2_with fail
      refine (implExpectedScore_any w3 _ _ xs xs (HV.out w3 C3.out) (HV.out w3 C3.out)).mono ?_
      rintro e w4 ⟨rfl, b4⟩
      rw [HO.out]
      have C4 := Lib.hid (below_step C3.out b4 C3.out.size)
      clear b4
      go_wp2_with fail
      refine (implFarApart_any w4 _ _ xs ys (HV.out w4 C4.out) (HV2.out w4 C4.out)).mono ?_
      rintro e w5 ⟨rfl, b5⟩
      rw [HFR.out]
      have C5 := Lib.hid (below_step C4.out b5 C4.out.size)
      clear b5
      go_wp2_with fail
      refine (alive_any _).mono ?_
      rintro e w' ⟨rfl, rfl⟩

      go_wp2_with fail
      go_ret
      exact ⟨rfl, below_step HB1.out C5.out HB1.out.size⟩
    · have HR : Hid (expR xs ys = -1) := Lib.hid (by rw [expR, h]; rfl)
      clear h
      have C1 := Lib.hid (Below.refl w1.heap.size w1)
      go_wp2_with fail
      refine (implExpectedScore_any w1 _ _ xs ys (HV.out w1 C1.out) (HV2.out w1 C1.out)).mono ?_
      rintro e w2 ⟨rfl, b2⟩
      rw [HR.out]
      have C2 := Lib.hid (below_step C1.out b2 C1.out.size)
      clear b2
      go_wp2_with fail
      refine (specExpectedScore_any w2 _ _ xs ys (HV.out w2 C2.out) (HV2.out w2 C2.out)).mono ?_
      rintro e w3 ⟨rfl, b3⟩
      rw [HR.out]
      have C3 := Lib.hid (below_step C2.out b3 C2.out.size)
      clear b3
      go_wp2_with fail
      refine (alive_any _).mono ?_
      rintro e w' ⟨rfl, rfl⟩

      go_wp2_with fail
      go_ret
      exact ⟨rfl, below_step HB1.out C3.out HB1.out.size⟩

set_option maxRecDepth 100000 in
set_option maxHeartbeats 8000000 in
theorem FnFarApart_walk (a0 : Option Addr) (len0 cap0 : Nat) (z0 : List Int) (w : World) (w0 : IsRowC .u8 w a0 len0 cap0 z0) :
    Calls Try.prog 5 #[.slice a0 len0 cap0] w fun e w' => e = .returned (.bool true) ∧ Below w.heap.size w w' := by
  by_cases hlen : 1048576 < len0
  · clear w0
    go_enter Try.func5, Try.ntmps5
    go_wp2
    go_ret
    exact ⟨rfl, Below.refl _ _⟩
  · have hlen' : decide (1048576 < len0) = false := by simpa using hlen
    go_enter Try.func5, Try.ntmps5
    go_wp2_with fail
    refine (drawFarApart_any _ _ _ _ _ w0).mono ?_
    rintro e w1 ⟨v, u, xs, ys, rfl, ov, ou, hl4, hl5, B1, -⟩
    have HB1 := Lib.hid B1
    have ord := ov.rd
    have our := ou.rd
    obtain ⟨A, c, rfl, hl, hmx, -⟩ := id ord
    have HV : Hid (∀ wr, Below w1.heap.size w1 wr → IRd wr (.slice A xs.length c) xs) := Lib.hid (fun wr hb => ord.keep (SameAt.of_below hb))
    obtain ⟨A2, c2, rfl, hl2, hmx2, -⟩ := id our
    have HV2 : Hid (∀ wr, Below w1.heap.size w1 wr → IRd wr (.slice A2 ys.length c2) ys) := Lib.hid (fun wr hb => our.keep (SameAt.of_below hb))
    clear ord our ov ou B1 w0
    rcases Bool.eq_false_or_eq_true (twoB xs ys) with h | h
    · obtain ⟨h1, h2, h3⟩ := (twoB_iff xs ys).1 h
      have z1 := far_zero h3
      have e4 := far_nonneg xs ys
      have e5 := far_bound h1 h2 h3
      obtain ⟨n, hn⟩ : ∃ n, farI xs ys = n := ⟨_, rfl⟩
      have HR : Hid (farR xs ys = n) := Lib.hid (by rw [farR, if_pos h, hn])
      rw [hn] at e4 e5
      rcases Bool.eq_false_or_eq_true (mixB xs ys) with hx | hx
      · obtain ⟨m1, m2, m3⟩ := mix_two_ hx
        have HMB := Lib.hid hx
        have HMR := Lib.hid m1
        have f1 := far_mix h3 m2
        have f2 := far_nonneg xs (mixL xs ys)
        obtain ⟨k, hk⟩ : ∃ k, farI xs (mixL xs ys) = k := ⟨_, rfl⟩
        have HFM : Hid (farR xs (mixL xs ys) = k) := Lib.hid (by rw [farR, if_pos m3, hk])
        rw [hk, hn] at f1
        rw [hk] at f2
        have q1 : IntKind.i64.wrap (4 * k) = n := by rw [← f1]; exact IntWalk.i64_in _ (by omega)
        have HRB : Hid (farR ys xs = n) := Lib.hid (by rw [farR, if_pos (two_self h).2, ← far_comm h3, hn])
        clear h h1 h2 h3 hx m1 m2 m3 hk f1
        rcases Bool.eq_false_or_eq_true (decide (xs = ys)) with hd | hd
        · obtain rfl : n = 0 := by rw [← hn]; exact z1.2 (by simpa using hd)
          have HD := Lib.hid hd
          clear hd hn z1
          have C1 := Lib.hid (Below.refl w1.heap.size w1)
          go_wp2_with fail
          refine (implFarApart_any w1 _ _ xs ys (HV.out w1 C1.out) (HV2.out w1 C1.out)).mono ?_
          rintro e w2 ⟨rfl, b2⟩
          rw [HR.out]
          have C2 := Lib.hid (below_step C1.out b2 C1.out.size)
          clear b2
          go_wp2_with fail
          refine (specFarApart_any w2 _ _ xs ys (HV.out w2 C2.out) (HV2.out w2 C2.out)).mono ?_
          rintro e w3 ⟨rfl, b3⟩
          rw [HR.out]
          have C3 := Lib.hid (below_step C2.out b3 C2.out.size)
          clear b3
          go_wp2_with fail
          refine (implMixedMeasure_any w3 _ _ xs ys (HV.out w3 C3.out) (HV2.out w3 C3.out)).mono ?_
          rintro e w4 ⟨vx, rfl, ox, b4⟩
          rw [HMB.out]
          have C4 := Lib.hid (below_step C3.out b4 C3.out.size)
          rw [HMR.out] at ox
          obtain ⟨A3, c3, rfl, -, -, -⟩ := id ox.rd
          have HV3 : Hid (∀ wr, Below w4.heap.size w4 wr → IRd wr (.slice A3 (mixL xs ys).length c3) (mixL xs ys)) := Lib.hid (fun wr hb => ox.rd.keep (SameAt.of_below hb))
          clear ox b4
          go_wp2_with fail
          refine (sameInts_any w4 _ _ xs ys (HV.out w4 C4.out) (HV2.out w4 C4.out)).mono ?_
          rintro e w5 ⟨q5, rfl, hw5⟩
          rw [HD.out]
          have D5 : Hid (Below w4.heap.size w4 w5) := Lib.hid (by rw [hw5]; exact below_drewN (Below.refl _ _) q5)
          have C5 := Lib.hid (below_step C4.out D5.out C4.out.size)
          clear hw5
          go_wp2_with fail
          refine (implFarApart_any w5 _ _ ys xs (HV2.out w5 C5.out) (HV.out w5 C5.out)).mono ?_
          rintro e w6 ⟨rfl, b6⟩
          rw [HRB.out]
          have D6 := Lib.hid (below_step D5.out b6 D5.out.size)
          have C6 := Lib.hid (below_step C5.out b6 C5.out.size)
          clear b6
          go_wp2_with fail
          refine (implFarApart_any w6 _ _ xs (mixL xs ys) (HV.out w6 C6.out) (HV3.out w6 D6.out)).mono ?_
          rintro e w7 ⟨rfl, b7⟩
          rw [HFM.out]
          have C7 := Lib.hid (below_step C6.out b7 C6.out.size)
          clear b7
          go_wp2_with fail
          refine (alive_any _).mono ?_
          rintro e w' ⟨rfl, rfl⟩

          go_wp2_with fail
          go_ret
          exact ⟨rfl, below_step HB1.out C7.out HB1.out.size⟩
        · have hn0 : (n == 0) = false := by
            have : ¬ n = 0 := fun e => by rw [decide_eq_false_iff_not] at hd; exact hd (z1.1 (by rw [hn, e]))
            simpa using this
          have HD := Lib.hid hd
          clear hd hn z1
          have C1 := Lib.hid (Below.refl w1.heap.size w1)
          go_wp2_with fail
          refine (implFarApart_any w1 _ _ xs ys (HV.out w1 C1.out) (HV2.out w1 C1.out)).mono ?_
          rintro e w2 ⟨rfl, b2⟩
          rw [HR.out]
          have C2 := Lib.hid (below_step C1.out b2 C1.out.size)
          clear b2
          go_wp2_with fail
          refine (specFarApart_any w2 _ _ xs ys (HV.out w2 C2.out) (HV2.out w2 C2.out)).mono ?_
          rintro e w3 ⟨rfl, b3⟩
          rw [HR.out]
          have C3 := Lib.hid (below_step C2.out b3 C2.out.size)
          clear b3
          go_wp2_with fail
          refine (implMixedMeasure_any w3 _ _ xs ys (HV.out w3 C3.out) (HV2.out w3 C3.out)).mono ?_
          rintro e w4 ⟨vx, rfl, ox, b4⟩
          rw [HMB.out]
          have C4 := Lib.hid (below_step C3.out b4 C3.out.size)
          rw [HMR.out] at ox
          obtain ⟨A3, c3, rfl, -, -, -⟩ := id ox.rd
          have HV3 : Hid (∀ wr, Below w4.heap.size w4 wr → IRd wr (.slice A3 (mixL xs ys).length c3) (mixL xs ys)) := Lib.hid (fun wr hb => ox.rd.keep (SameAt.of_below hb))
          clear ox b4
          go_wp2_with fail
          refine (sameInts_any w4 _ _ xs ys (HV.out w4 C4.out) (HV2.out w4 C4.out)).mono ?_
          rintro e w5 ⟨q5, rfl, hw5⟩
          rw [HD.out]
          have D5 : Hid (Below w4.heap.size w4 w5) := Lib.hid (by rw [hw5]; exact below_drewN (Below.refl _ _) q5)
          have C5 := Lib.hid (below_step C4.out D5.out C4.out.size)
          clear hw5
          go_wp2_with fail
          refine (implFarApart_any w5 _ _ ys xs (HV2.out w5 C5.out) (HV.out w5 C5.out)).mono ?_
          rintro e w6 ⟨rfl, b6⟩
          rw [HRB.out]
          have D6 := Lib.hid (below_step D5.out b6 D5.out.size)
          have C6 := Lib.hid (below_step C5.out b6 C5.out.size)
          clear b6
          go_wp2_with fail
          refine (implFarApart_any w6 _ _ xs (mixL xs ys) (HV.out w6 C6.out) (HV3.out w6 D6.out)).mono ?_
          rintro e w7 ⟨rfl, b7⟩
          rw [HFM.out]
          have C7 := Lib.hid (below_step C6.out b7 C6.out.size)
          clear b7
          go_wp2_with fail
          refine (alive_any _).mono ?_
          rintro e w' ⟨rfl, rfl⟩

          go_wp2_with fail
          go_ret
          exact ⟨rfl, below_step HB1.out C7.out HB1.out.size⟩
      · have HMB := Lib.hid hx
        have HRB : Hid (farR ys xs = n) := Lib.hid (by rw [farR, if_pos (two_self h).2, ← far_comm h3, hn])
        clear h h1 h2 h3 hx
        rcases Bool.eq_false_or_eq_true (decide (xs = ys)) with hd | hd
        · obtain rfl : n = 0 := by rw [← hn]; exact z1.2 (by simpa using hd)
          have HD := Lib.hid hd
          clear hd hn z1
          have C1 := Lib.hid (Below.refl w1.heap.size w1)
          go_wp2_with fail
          refine (implFarApart_any w1 _ _ xs ys (HV.out w1 C1.out) (HV2.out w1 C1.out)).mono ?_
          rintro e w2 ⟨rfl, b2⟩
          rw [HR.out]
          have C2 := Lib.hid (below_step C1.out b2 C1.out.size)
          clear b2
          go_wp2_with fail
          refine (specFarApart_any w2 _ _ xs ys (HV.out w2 C2.out) (HV2.out w2 C2.out)).mono ?_
          rintro e w3 ⟨rfl, b3⟩
          rw [HR.out]
          have C3 := Lib.hid (below_step C2.out b3 C2.out.size)
          clear b3
          go_wp2_with fail
          refine (implMixedMeasure_any w3 _ _ xs ys (HV.out w3 C3.out) (HV2.out w3 C3.out)).mono ?_
          rintro e w4 ⟨vx, rfl, ox, b4⟩
          rw [HMB.out]
          have C4 := Lib.hid (below_step C3.out b4 C3.out.size)
          clear ox b4
          go_wp2_with fail
          refine (sameInts_any w4 _ _ xs ys (HV.out w4 C4.out) (HV2.out w4 C4.out)).mono ?_
          rintro e w5 ⟨q5, rfl, hw5⟩
          rw [HD.out]
          have D5 : Hid (Below w4.heap.size w4 w5) := Lib.hid (by rw [hw5]; exact below_drewN (Below.refl _ _) q5)
          have C5 := Lib.hid (below_step C4.out D5.out C4.out.size)
          clear hw5
          go_wp2_with fail
          refine (implFarApart_any w5 _ _ ys xs (HV2.out w5 C5.out) (HV.out w5 C5.out)).mono ?_
          rintro e w6 ⟨rfl, b6⟩
          rw [HRB.out]
          have D6 := Lib.hid (below_step D5.out b6 D5.out.size)
          have C6 := Lib.hid (below_step C5.out b6 C5.out.size)
          clear b6
          go_wp2_with fail
          refine (alive_any _).mono ?_
          rintro e w' ⟨rfl, rfl⟩

          go_wp2_with fail
          go_ret
          exact ⟨rfl, below_step HB1.out C6.out HB1.out.size⟩
        · have hn0 : (n == 0) = false := by
            have : ¬ n = 0 := fun e => by rw [decide_eq_false_iff_not] at hd; exact hd (z1.1 (by rw [hn, e]))
            simpa using this
          have HD := Lib.hid hd
          clear hd hn z1
          have C1 := Lib.hid (Below.refl w1.heap.size w1)
          go_wp2_with fail
          refine (implFarApart_any w1 _ _ xs ys (HV.out w1 C1.out) (HV2.out w1 C1.out)).mono ?_
          rintro e w2 ⟨rfl, b2⟩
          rw [HR.out]
          have C2 := Lib.hid (below_step C1.out b2 C1.out.size)
          clear b2
          go_wp2_with fail
          refine (specFarApart_any w2 _ _ xs ys (HV.out w2 C2.out) (HV2.out w2 C2.out)).mono ?_
          rintro e w3 ⟨rfl, b3⟩
          rw [HR.out]
          have C3 := Lib.hid (below_step C2.out b3 C2.out.size)
          clear b3
          go_wp2_with fail
          refine (implMixedMeasure_any w3 _ _ xs ys (HV.out w3 C3.out) (HV2.out w3 C3.out)).mono ?_
          rintro e w4 ⟨vx, rfl, ox, b4⟩
          rw [HMB.out]
          have C4 := Lib.hid (below_step C3.out b4 C3.out.size)
          clear ox b4
          go_wp2_with fail
          refine (sameInts_any w4 _ _ xs ys (HV.out w4 C4.out) (HV2.out w4 C4.out)).mono ?_
          rintro e w5 ⟨q5, rfl, hw5⟩
          rw [HD.out]
          have D5 : Hid (Below w4.heap.size w4 w5) := Lib.hid (by rw [hw5]; exact below_drewN (Below.refl _ _) q5)
          have C5 := Lib.hid (below_step C4.out D5.out C4.out.size)
          clear hw5
          go_wp2_with fail
          refine (implFarApart_any w5 _ _ ys xs (HV2.out w5 C5.out) (HV.out w5 C5.out)).mono ?_
          rintro e w6 ⟨rfl, b6⟩
          rw [HRB.out]
          have D6 := Lib.hid (below_step D5.out b6 D5.out.size)
          have C6 := Lib.hid (below_step C5.out b6 C5.out.size)
          clear b6
          go_wp2_with fail
          refine (alive_any _).mono ?_
          rintro e w' ⟨rfl, rfl⟩

          go_wp2_with fail
          go_ret
          exact ⟨rfl, below_step HB1.out C6.out HB1.out.size⟩
    · have HR : Hid (farR xs ys = -1) := Lib.hid (by rw [farR, h]; rfl)
      clear h
      have C1 := Lib.hid (Below.refl w1.heap.size w1)
      go_wp2_with fail
      refine (implFarApart_any w1 _ _ xs ys (HV.out w1 C1.out) (HV2.out w1 C1.out)).mono ?_
      rintro e w2 ⟨rfl, b2⟩
      rw [HR.out]
      have C2 := Lib.hid (below_step C1.out b2 C1.out.size)
      clear b2
      go_wp2_with fail
      refine (specFarApart_any w2 _ _ xs ys (HV.out w2 C2.out) (HV2.out w2 C2.out)).mono ?_
      rintro e w3 ⟨rfl, b3⟩
      rw [HR.out]
      have C3 := Lib.hid (below_step C2.out b3 C2.out.size)
      clear b3
      go_wp2_with fail
      refine (alive_any _).mono ?_
      rintro e w' ⟨rfl, rfl⟩

      go_wp2_with fail
      go_ret
      exact ⟨rfl, below_step HB1.out C3.out HB1.out.size⟩

end Go.Proofs.Ytnkgnhnggjoglaa
