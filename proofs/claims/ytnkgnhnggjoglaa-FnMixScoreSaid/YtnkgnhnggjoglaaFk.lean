/- The walks of the laws of SeenMeasure and of mixed scores. Conditions: rows of bytes that came in. (gen_fh.py) -/
import Derived.Test.YtnkgnhnggjoglaaFh
import Derived.Test.YtnkgnhnggjoglaaNc
namespace Go.Proofs.Ytnkgnhnggjoglaa
open Go.RowKit
set_option linter.unusedVariables false

theorem rowc_keep11 {k : IntKind} {w w' : World} {a : Option Addr} {len cap : Nat} {zs : List Int} (h : IsRowC k w a len cap zs) (b : Below w.heap.size w w') : IsRowC k w' a len cap zs := by
  rcases h with ⟨rfl, rfl, rfl, rfl⟩ | ⟨x, rfl, hl, hm, hz, hcell, hwz⟩
  · exact .inl ⟨rfl, rfl, rfl, rfl⟩
  · refine .inr ⟨x, rfl, hl, hm, hz, fun i hi => ?_, hwz⟩
    have hc := hcell i hi
    have hlt := World.block_lt_of_cell? w _ hc
    exact (World.cell?_of_block (b.block _ hlt)).trans hc

theorem seen_law {W : Int} {ss : List Int} (h : seenB W ss = true) : meaB (seenR W ss) = true ∧ ((seenR W ss).length : Int) = W ∧ totR (seenR W ss) ss = totI (seenR W ss) ss ∧ 0 ≤ totI (seenR W ss) ss ∧
    ∀ m, meaB m = true → (m.length : Int) = W → totR m ss = totI m ss ∧ totI (seenR W ss) ss ≤ totI m ss := by
  obtain ⟨⟨w1, w4⟩, ⟨l1, l12⟩, hs, hd⟩ := (seenB_iff W ss).1 h
  have hR : seenR W ss = shr11 W.toNat ss := by rw [seenR, if_pos h]
  rw [hR]
  have hl : (shr11 W.toNat ss).length = W.toNat := shr_len _ _
  have hy : ∀ k, k < (shr11 W.toNat ss).length → at0 (shr11 W.toNat ss) k * (ss.length : Int) = seenN ss k * 36 := by
    intro k hk
    rw [hl] at hk
    rw [at0_of (shr_at hk)]
    exact Int.ediv_mul_cancel (Int.dvd_of_emod_eq_zero (hd k hk))
  have hm : meaB (shr11 W.toNat ss) = true := seen_mea (by omega) (by omega) l1 (fun x hx => by have := hs x hx; omega) hy
  have hb : ∀ m, meaB m = true → (m.length : Int) = W → totR m ss = totI m ss := fun m h1 h2 => by
    rw [totR, if_pos ((totB_iff m ss).2 ⟨h1, l12, fun x hx => by have := hs x hx; omega⟩)]
  refine ⟨hm, by omega, hb _ hm (by omega), tot_nonneg _ _, fun m h1 h2 => ⟨hb m h1 h2, ?_⟩⟩
  have h3 := seen_best (y := shr11 W.toNat ss) (m := m) (ss := ss) (by omega) (fun x hx => by have := hs x hx; omega) hy
  have h4 := Int.mul_nonneg (show (0 : Int) ≤ (ss.length : Int) by omega) (far_nonneg (shr11 W.toNat ss) m)
  omega

set_option maxRecDepth 100000 in
set_option maxHeartbeats 8000000 in
theorem FnSeenMeasure_walk (a0 : Option Addr) (len0 cap0 : Nat) (z0 : List Int) (a1 : Option Addr) (len1 cap1 : Nat) (z1 : List Int) (w : World) (h0 : IsRowC .u8 w a0 len0 cap0 z0) (h1 : IsRowC .u8 w a1 len1 cap1 z1) :
    Calls Try.prog 8 #[.slice a0 len0 cap0, .slice a1 len1 cap1] w fun e w' => e = .returned (.bool true) ∧ Below w.heap.size w w' := by
  by_cases hlen : 1048576 < len0
  · clear h0 h1
    have hlen2 : (1048576 : Int) < (len0 : Int) := by omega
    go_enter Try.func8, Try.ntmps8
    go_wp2
    go_ret
    exact ⟨rfl, Below.refl _ _⟩
  have hlen' : (len0 : Int) ≤ 1048576 := by omega
  by_cases hlen1 : 1048576 < len1
  · clear h0 h1
    have hlen2 : (1048576 : Int) < (len1 : Int) := by omega
    go_enter Try.func8, Try.ntmps8
    go_wp2
    go_ret
    exact ⟨rfl, Below.refl _ _⟩
  · have hlen1' : (len1 : Int) ≤ 1048576 := by omega
    clear hlen hlen1
    go_enter Try.func8, Try.ntmps8
    go_wp2_with fail
    refine (drawSeenMeasure_any _ _ _ _ _ h0).mono ?_
    rintro e w1 ⟨n, v, ss, rfl, n1, n4, ov, hl4, B1⟩
    have HB1 := Lib.hid B1
    have HC1 := Lib.hid (rowc_keep11 h1 B1)
    have ord := ov.rd
    obtain ⟨A, c, rfl, hl, hmx, -⟩ := id ord
    have HV : Hid (∀ wr, Below w1.heap.size w1 wr → IRd wr (.slice A ss.length c) ss) := Lib.hid (fun wr hb => ord.keep (SameAt.of_below hb))
    have C1 := Lib.hid (Below.refl w1.heap.size w1)
    clear ord ov B1 h0 h1
    rcases Bool.eq_false_or_eq_true (seenB n ss) with h | h
    · obtain ⟨k1, k2, k3, k4, k5⟩ := seen_law h
      obtain ⟨N, hN⟩ : ∃ N, totI (seenR n ss) ss = N := ⟨_, rfl⟩
      have HB := Lib.hid h
      have HMY := Lib.hid k1
      have HT : Hid (totR (seenR n ss) ss = N) := Lib.hid (by rw [k3, hN])
      have HLAW := Lib.hid k5
      have HTI := Lib.hid hN
      rw [hN] at k4
      clear h k1 k2 k3 k5 hN
      go_wp2_with fail
      refine (implSeenMeasure_any w1 n _ ss (HV.out w1 C1.out)).mono ?_
      rintro e w2 ⟨vm, rfl, om, b2⟩
      rw [HB.out]
      have C2 := Lib.hid (below_step C1.out b2 C1.out.size)
      clear b2
      obtain ⟨A2, c2, rfl, -, -, -⟩ := id om.rd
      have HM : Hid (∀ wr, Below w2.heap.size w2 wr → IRd wr (.slice A2 (seenR n ss).length c2) (seenR n ss)) := Lib.hid (fun wr hb => om.rd.keep (SameAt.of_below hb))
      clear om
      go_wp2_with fail
      refine (specSeenMeasure_any w2 n _ ss (HV.out w2 C2.out)).mono ?_
      rintro e w3 ⟨vx, rfl, ox, b3⟩
      rw [HB.out]
      have D3 := Lib.hid b3
      have C3 := Lib.hid (below_step C2.out b3 C2.out.size)
      obtain ⟨A3, c3, rfl, -, -, -⟩ := id ox.rd
      have HX := Lib.hid ox.rd
      clear ox b3
      go_wp2_with fail
      refine (sameInts_any w3 _ _ _ _ (HM.out w3 D3.out) HX.out).mono ?_
      rintro e w4 ⟨q4, rfl, hw4⟩
      rw [decide_self]
      have D4 : Hid (Below w2.heap.size w2 w4) := Lib.hid (by rw [hw4]; exact below_drewN D3.out q4)
      have C4 := Lib.hid (below_step C2.out D4.out C2.out.size)
      clear hw4
      go_wp2_with fail
      refine (drawTotalScore_any w4 _ _ _ _ (rowc_keep11 HC1.out C4.out)).mono ?_
      rintro e w5 ⟨vo, vz, xs, zs, rfl, oo, -, hlo, -, b5⟩
      have D5 := Lib.hid (below_step D4.out b5 D4.out.size)
      have C5 := Lib.hid (below_step C4.out b5 C4.out.size)
      obtain ⟨A5, c5, rfl, hl5, hmx5, -⟩ := id oo.rd
      have HO : Hid (∀ wr, Below w5.heap.size w5 wr → IRd wr (.slice A5 xs.length c5) xs) := Lib.hid (fun wr hb => oo.rd.keep (SameAt.of_below hb))
      clear oo b5
      go_wp2_with fail
      refine (implTotalScore_any w5 _ _ _ ss (HM.out w5 D5.out) (HV.out w5 C5.out)).mono ?_
      rintro e w6 ⟨rfl, b6⟩
      rw [HT.out]
      have E6 := Lib.hid b6
      have D6 := Lib.hid (below_step D5.out b6 D5.out.size)
      have C6 := Lib.hid (below_step C5.out b6 C5.out.size)
      clear b6
      by_cases hl : (xs.length : Int) = n
      · have hne : ((xs.length : Int) != n) = false := by simpa using hl
        rcases Bool.eq_false_or_eq_true (meaB xs) with hm | hm
        · obtain ⟨t1, t2⟩ := HLAW.out xs hm hl
          obtain ⟨M, hM⟩ : ∃ M, totI xs ss = M := ⟨_, rfl⟩
          have HTM : Hid (totR xs ss = M) := Lib.hid (by rw [t1, hM])
          rw [HTI.out, hM] at t2
          have HMX := Lib.hid hm
          clear hl t1 hM hm
          go_wp2_with fail
          refine (implMeasureOk_any w6 _ _ (HM.out w6 D6.out)).mono ?_
          rintro e w' ⟨rfl, rfl⟩
          rw [HMY.out]
          go_wp2_with fail
          refine (specMeasureOk_any w6 _ xs (HO.out w6 E6.out)).mono ?_
          rintro e w' ⟨rfl, rfl⟩
          rw [HMX.out]
          go_wp2_with fail
          refine (implTotalScore_any w6 _ _ xs ss (HO.out w6 E6.out) (HV.out w6 C6.out)).mono ?_
          rintro e w7 ⟨rfl, b7⟩
          rw [HTM.out]
          have C7 := Lib.hid (below_step C6.out b7 C6.out.size)
          clear b7
          go_wp2_with fail
          go_ret
          exact ⟨rfl, below_step HB1.out C7.out HB1.out.size⟩
        · have HMX := Lib.hid hm
          clear hl hm
          go_wp2_with fail
          refine (implMeasureOk_any w6 _ _ (HM.out w6 D6.out)).mono ?_
          rintro e w' ⟨rfl, rfl⟩
          rw [HMY.out]
          go_wp2_with fail
          refine (specMeasureOk_any w6 _ xs (HO.out w6 E6.out)).mono ?_
          rintro e w' ⟨rfl, rfl⟩
          rw [HMX.out]
          go_wp2_with fail
          go_ret
          exact ⟨rfl, below_step HB1.out C6.out HB1.out.size⟩
      · have hne : ((xs.length : Int) != n) = true := by simpa using hl
        clear hl
        go_wp2_with fail
        refine (implMeasureOk_any w6 _ _ (HM.out w6 D6.out)).mono ?_
        rintro e w' ⟨rfl, rfl⟩
        rw [HMY.out]
        go_wp2_with fail
        go_ret
        exact ⟨rfl, below_step HB1.out C6.out HB1.out.size⟩
    · have HB := Lib.hid h
      have HRN : Hid (seenR n ss = []) := Lib.hid (by rw [seenR, h]; rfl)
      clear h
      go_wp2_with fail
      refine (implSeenMeasure_any w1 n _ ss (HV.out w1 C1.out)).mono ?_
      rintro e w2 ⟨vm, rfl, om, b2⟩
      rw [HB.out]
      have C2 := Lib.hid (below_step C1.out b2 C1.out.size)
      clear b2
      rw [HRN.out] at om
      obtain ⟨A2, c2, rfl, -, -, -⟩ := id om.rd
      have HM : Hid (∀ wr, Below w2.heap.size w2 wr → IRd wr (.slice A2 ([] : List Int).length c2) ([] : List Int)) := Lib.hid (fun wr hb => om.rd.keep (SameAt.of_below hb))
      clear om
      go_wp2_with fail
      refine (specSeenMeasure_any w2 n _ ss (HV.out w2 C2.out)).mono ?_
      rintro e w3 ⟨vx, rfl, ox, b3⟩
      rw [HB.out]
      have D3 := Lib.hid b3
      have C3 := Lib.hid (below_step C2.out b3 C2.out.size)
      rw [HRN.out] at ox
      obtain ⟨A3, c3, rfl, -, -, -⟩ := id ox.rd
      have HX := Lib.hid ox.rd
      clear ox b3
      go_wp2_with fail
      refine (sameInts_any w3 _ _ _ _ (HM.out w3 D3.out) HX.out).mono ?_
      rintro e w4 ⟨q4, rfl, hw4⟩
      rw [decide_self]
      have D4 : Hid (Below w2.heap.size w2 w4) := Lib.hid (by rw [hw4]; exact below_drewN D3.out q4)
      have C4 := Lib.hid (below_step C2.out D4.out C2.out.size)
      clear hw4
      go_wp2_with fail
      refine (alive_any _).mono ?_
      rintro e w' ⟨rfl, rfl⟩

      go_wp2_with fail
      go_ret
      exact ⟨rfl, below_step HB1.out C4.out HB1.out.size⟩

set_option maxRecDepth 100000 in
set_option maxHeartbeats 8000000 in
theorem FnMixScore_walk (a0 : Option Addr) (len0 cap0 : Nat) (z0 : List Int) (a1 : Option Addr) (len1 cap1 : Nat) (z1 : List Int) (w : World) (h0 : IsRowC .u8 w a0 len0 cap0 z0) (h1 : IsRowC .u8 w a1 len1 cap1 z1) :
    Calls Try.prog 9 #[.slice a0 len0 cap0, .slice a1 len1 cap1] w fun e w' => e = .returned (.bool true) ∧ Below w.heap.size w w' := by
  by_cases hlen : 1048576 < len0
  · clear h0 h1
    have hlen2 : (1048576 : Int) < (len0 : Int) := by omega
    go_enter Try.func9, Try.ntmps9
    go_wp2
    go_ret
    exact ⟨rfl, Below.refl _ _⟩
  have hlen' : (len0 : Int) ≤ 1048576 := by omega
  by_cases hlen1 : 1048576 < len1
  · clear h0 h1
    have hlen2 : (1048576 : Int) < (len1 : Int) := by omega
    go_enter Try.func9, Try.ntmps9
    go_wp2
    go_ret
    exact ⟨rfl, Below.refl _ _⟩
  · have hlen1' : (len1 : Int) ≤ 1048576 := by omega
    clear hlen hlen1
    go_enter Try.func9, Try.ntmps9
    go_wp2_with fail
    refine (drawMixedMeasure_any _ _ _ _ _ h0).mono ?_
    rintro e w1 ⟨v, u, xs, ys, rfl, ov, ou, hl4, hl5, B1, -⟩
    have HB1 := Lib.hid B1
    have HC1 := Lib.hid (rowc_keep11 h1 B1)
    have ord := ov.rd
    have our := ou.rd
    obtain ⟨A, c, rfl, hl, hmx, -⟩ := id ord
    have HV : Hid (∀ wr, Below w1.heap.size w1 wr → IRd wr (.slice A xs.length c) xs) := Lib.hid (fun wr hb => ord.keep (SameAt.of_below hb))
    obtain ⟨A2, c2, rfl, hl2, hmx2, -⟩ := id our
    have HV2 : Hid (∀ wr, Below w1.heap.size w1 wr → IRd wr (.slice A2 ys.length c2) ys) := Lib.hid (fun wr hb => our.keep (SameAt.of_below hb))
    have C1 := Lib.hid (Below.refl w1.heap.size w1)
    clear ord our ov ou B1 h0 h1
    rcases Bool.eq_false_or_eq_true (mixB xs ys) with hx | hx
    · obtain ⟨m1, m2, m3⟩ := mix_two_ hx
      have hlx : xs.length = ys.length := by
        simp only [mixB, Bool.and_eq_true, decide_eq_true_eq] at hx
        exact hx.1.2
      obtain ⟨mx1, mx2, -⟩ := mix_mea hx
      have HMB := Lib.hid hx
      have HMR := Lib.hid m1
      have HEV := Lib.hid m2
      have HLX := Lib.hid hlx
      have HML := Lib.hid mx2
      have HMM := Lib.hid mx1
      have HMYS : Hid (meaB xs = true ∧ meaB ys = true) := Lib.hid (by simp only [mixB, Bool.and_eq_true] at hx; exact ⟨hx.1.1.1, hx.1.1.2⟩)
      clear hx m1 m2 m3 hlx mx1 mx2
      go_wp2_with fail
      refine (implMixedMeasure_any w1 _ _ xs ys (HV.out w1 C1.out) (HV2.out w1 C1.out)).mono ?_
      rintro e w2 ⟨vx, rfl, ox, b2⟩
      rw [HMB.out]
      have C2 := Lib.hid (below_step C1.out b2 C1.out.size)
      rw [HMR.out] at ox
      obtain ⟨A3, c3, rfl, -, -, -⟩ := id ox.rd
      have HX : Hid (∀ wr, Below w2.heap.size w2 wr → IRd wr (.slice A3 (mixL xs ys).length c3) (mixL xs ys)) := Lib.hid (fun wr hb => ox.rd.keep (SameAt.of_below hb))
      clear ox b2
      go_wp2_with fail
      refine (drawGrainsOn_any w2 _ _ _ _ (rowc_keep11 HC1.out C2.out)).mono ?_
      rintro e w4 ⟨vt, t, x0, rfl, ot, hlt, b4⟩
      have D4 := Lib.hid b4
      have C4 := Lib.hid (below_step C2.out b4 C2.out.size)
      obtain ⟨A4, c4, rfl, hl4', hmx4, -⟩ := id ot.rd
      have HT : Hid (∀ wr, Below w4.heap.size w4 wr → IRd wr (.slice A4 t.length c4) t) := Lib.hid (fun wr hb => ot.rd.keep (SameAt.of_below hb))
      clear ot b4
      rcases Bool.eq_false_or_eq_true (meaB t) with hm | hm
      · have HM := Lib.hid hm
        by_cases hlen : t.length = xs.length
        · have hne : ((t.length : Int) != (xs.length : Int)) = false := by rw [hlen]; simp
          have e0 := exp_mix hm hlen HLX.out HEV.out HML.out
          have t1 : twoB t xs = true := (twoB_iff _ _).2 ⟨hm, HMYS.out.1, hlen⟩
          have t2 : twoB t ys = true := (twoB_iff _ _).2 ⟨hm, HMYS.out.2, hlen.trans HLX.out⟩
          have t3 : twoB t (mixL xs ys) = true := (twoB_iff _ _).2 ⟨hm, HMM.out, hlen.trans HML.out.symm⟩
          have b1 := exp_bound hm HMYS.out.1 hlen
          have b2 := exp_bound hm HMYS.out.2 (hlen.trans HLX.out)
          have b3 := exp_bound hm HMM.out (hlen.trans HML.out.symm)
          obtain ⟨p, hp⟩ : ∃ p, expI t (mixL xs ys) = p := ⟨_, rfl⟩
          obtain ⟨q, hq⟩ : ∃ q, expI t xs = q := ⟨_, rfl⟩
          obtain ⟨r, hr⟩ : ∃ r, expI t ys = r := ⟨_, rfl⟩
          have HE1 : Hid (expR t (mixL xs ys) = p) := Lib.hid (by rw [expR, if_pos t3, hp])
          have HE2 : Hid (expR t xs = q) := Lib.hid (by rw [expR, if_pos t1, hq])
          have HE3 : Hid (expR t ys = r) := Lib.hid (by rw [expR, if_pos t2, hr])
          rw [hp, hq, hr] at e0
          rw [hq] at b1
          rw [hr] at b2
          rw [hp] at b3
          obtain ⟨e1, e2⟩ := e0
          obtain ⟨a, ha⟩ : ∃ a, 2 * p = a := ⟨_, rfl⟩
          obtain ⟨b, hb⟩ : ∃ b, q + r = b := ⟨_, rfl⟩
          have q1 : IntKind.i64.wrap (2 * p) = a := by rw [ha]; exact IntWalk.i64_in _ (by omega)
          have q2 : IntKind.i64.wrap (q + r) = b := by rw [hb]; exact IntWalk.i64_in _ (by omega)
          have a0' : 0 ≤ a := by omega
          have hab : a ≤ b := by omega
          rw [ha, hb] at e2
          clear t1 t2 t3 hp hq hr e1 ha hb hm b1 b2 b3
          rcases Bool.eq_false_or_eq_true (decide (xs = ys)) with hd | hd
          · have HD := Lib.hid hd
            have heq : (a == b) = true := by
              have h9 : ¬ a < b := fun hc => (e2.1 hc) (by simpa using hd)
              have h8 : a = b := by omega
              simpa using h8
            clear hd e2 hlen
            go_wp2_with fail
            refine (specMeasureOk_any w4 _ t (HT.out w4 (Below.refl _ _))).mono ?_
            rintro e w' ⟨rfl, rfl⟩
            rw [HM.out]
            go_wp2_with fail
            refine (implExpectedScore_any w4 _ _ t (mixL xs ys) (HT.out w4 (Below.refl _ _)) (HX.out w4 D4.out)).mono ?_
            rintro e w5 ⟨rfl, b5⟩
            rw [HE1.out]
            have E5 := Lib.hid b5
            have C5 := Lib.hid (below_step C4.out b5 C4.out.size)
            clear b5
            go_wp2_with fail
            refine (implExpectedScore_any w5 _ _ t xs (HT.out w5 E5.out) (HV.out w5 C5.out)).mono ?_
            rintro e w6 ⟨rfl, b6⟩
            rw [HE2.out]
            have E6 := Lib.hid (below_step E5.out b6 E5.out.size)
            have C6 := Lib.hid (below_step C5.out b6 C5.out.size)
            clear b6
            go_wp2_with fail
            refine (implExpectedScore_any w6 _ _ t ys (HT.out w6 E6.out) (HV2.out w6 C6.out)).mono ?_
            rintro e w7 ⟨rfl, b7⟩
            rw [HE3.out]
            have C7 := Lib.hid (below_step C6.out b7 C6.out.size)
            clear b7
            go_wp2_with fail
            refine (sameInts_any w7 _ _ xs ys (HV.out w7 C7.out) (HV2.out w7 C7.out)).mono ?_
            rintro e w8 ⟨q8, rfl, hw8⟩
            rw [HD.out]
            have C8 : Hid (Below w1.heap.size w1 w8) := Lib.hid (by rw [hw8]; exact below_drewN C7.out q8)
            clear hw8
            go_wp2_with fail
            go_ret
            exact ⟨rfl, below_step HB1.out C8.out HB1.out.size⟩
          · have HD := Lib.hid hd
            have heq : (a == b) = false := by
              have h9 : a < b := e2.2 (by simpa using hd)
              have h8 : ¬ a = b := by omega
              simpa using h8
            clear hd e2 hlen
            go_wp2_with fail
            refine (specMeasureOk_any w4 _ t (HT.out w4 (Below.refl _ _))).mono ?_
            rintro e w' ⟨rfl, rfl⟩
            rw [HM.out]
            go_wp2_with fail
            refine (implExpectedScore_any w4 _ _ t (mixL xs ys) (HT.out w4 (Below.refl _ _)) (HX.out w4 D4.out)).mono ?_
            rintro e w5 ⟨rfl, b5⟩
            rw [HE1.out]
            have E5 := Lib.hid b5
            have C5 := Lib.hid (below_step C4.out b5 C4.out.size)
            clear b5
            go_wp2_with fail
            refine (implExpectedScore_any w5 _ _ t xs (HT.out w5 E5.out) (HV.out w5 C5.out)).mono ?_
            rintro e w6 ⟨rfl, b6⟩
            rw [HE2.out]
            have E6 := Lib.hid (below_step E5.out b6 E5.out.size)
            have C6 := Lib.hid (below_step C5.out b6 C5.out.size)
            clear b6
            go_wp2_with fail
            refine (implExpectedScore_any w6 _ _ t ys (HT.out w6 E6.out) (HV2.out w6 C6.out)).mono ?_
            rintro e w7 ⟨rfl, b7⟩
            rw [HE3.out]
            have C7 := Lib.hid (below_step C6.out b7 C6.out.size)
            clear b7
            go_wp2_with fail
            refine (sameInts_any w7 _ _ xs ys (HV.out w7 C7.out) (HV2.out w7 C7.out)).mono ?_
            rintro e w8 ⟨q8, rfl, hw8⟩
            rw [HD.out]
            have C8 : Hid (Below w1.heap.size w1 w8) := Lib.hid (by rw [hw8]; exact below_drewN C7.out q8)
            clear hw8
            go_wp2_with fail
            go_ret
            exact ⟨rfl, below_step HB1.out C8.out HB1.out.size⟩
        · have hne : ((t.length : Int) != (xs.length : Int)) = true := by simp; omega
          clear hm hlen
          go_wp2_with fail
          refine (specMeasureOk_any w4 _ t (HT.out w4 (Below.refl _ _))).mono ?_
          rintro e w' ⟨rfl, rfl⟩
          rw [HM.out]
          go_wp2_with fail
          refine (alive_any _).mono ?_
          rintro e w' ⟨rfl, rfl⟩
          go_wp2_with fail
          go_ret
          exact ⟨rfl, below_step HB1.out C4.out HB1.out.size⟩
      · have HM := Lib.hid hm
        clear hm
        go_wp2_with fail
        refine (specMeasureOk_any w4 _ t (HT.out w4 (Below.refl _ _))).mono ?_
        rintro e w' ⟨rfl, rfl⟩
        rw [HM.out]
        go_wp2_with fail
        refine (alive_any _).mono ?_
        rintro e w' ⟨rfl, rfl⟩
        go_wp2_with fail
        go_ret
        exact ⟨rfl, below_step HB1.out C4.out HB1.out.size⟩
    · have HMB := Lib.hid hx
      clear hx
      go_wp2_with fail
      refine (implMixedMeasure_any w1 _ _ xs ys (HV.out w1 C1.out) (HV2.out w1 C1.out)).mono ?_
      rintro e w2 ⟨vx, rfl, ox, b2⟩
      rw [HMB.out]
      have C2 := Lib.hid (below_step C1.out b2 C1.out.size)
      have ox2 := ox.rd
      obtain ⟨A3, c3, rfl, -, -, -⟩ := id ox2
      clear ox ox2 b2
      go_wp2_with fail
      refine (drawGrainsOn_any w2 _ _ _ _ (rowc_keep11 HC1.out C2.out)).mono ?_
      rintro e w4 ⟨vt, t, x0, rfl, ot, hlt, b4⟩
      have D4 := Lib.hid b4
      have C4 := Lib.hid (below_step C2.out b4 C2.out.size)
      obtain ⟨A4, c4, rfl, hl4', hmx4, -⟩ := id ot.rd
      have HT : Hid (∀ wr, Below w4.heap.size w4 wr → IRd wr (.slice A4 t.length c4) t) := Lib.hid (fun wr hb => ot.rd.keep (SameAt.of_below hb))
      clear ot b4
      go_wp2_with fail
      refine (alive_any _).mono ?_
      rintro e w' ⟨rfl, rfl⟩
      go_wp2_with fail
      go_ret
      exact ⟨rfl, below_step HB1.out C4.out HB1.out.size⟩

end Go.Proofs.Ytnkgnhnggjoglaa
