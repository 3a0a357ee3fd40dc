/- The walk of the law of BestReport. Conditions: rows of bytes that came in. (gen_fh.py) -/
import Derived.Test.YtnkgnhnggjoglaaFh
namespace Go.Proofs.Ytnkgnhnggjoglaa
open Go.RowKit
set_option linter.unusedVariables false

theorem best_near {t : List Int} {rs : List (List Int)} (h : bestB t rs = true) : ∃ bn s, bestR t rs = ((bn : Nat) : Int) ∧ bn < rs.length ∧ rs[bn]? = some s ∧
    ∀ k r, rs[k]? = some r → farI t s ≤ farI t r ∧ (k < bn → farI t s < farI t r) := by
  obtain ⟨h1, h6, hall⟩ := (bestB_iff t rs).1 h
  obtain ⟨j, hj⟩ : ∃ j, rs.length = j + 1 := ⟨rs.length - 1, by omega⟩
  have hb : bestR t rs = ((bestF t rs j : Nat) : Int) := by rw [bestR, if_pos h, hj]; rfl
  have hle := best_le t rs j
  have hlt : bestF t rs j < rs.length := by omega
  have hs : rs[bestF t rs j]? = some rs[bestF t rs j] := List.getElem?_eq_getElem hlt
  refine ⟨bestF t rs j, _, hb, hlt, hs, fun k r hr => ?_⟩
  have hk : k < rs.length := (List.getElem?_eq_some_iff.1 hr).1
  obtain ⟨k1, k2⟩ := best_first t rs j k (by omega)
  rw [getD_of hs, getD_of hr] at k1 k2
  obtain ⟨a1, -, a3⟩ := (twoB_iff _ _).1 (hall _ (List.mem_of_getElem? hs))
  obtain ⟨-, -, b3⟩ := (twoB_iff _ _).1 (hall _ (List.mem_of_getElem? hr))
  rw [exp_far a1 a3, exp_far a1 b3] at k1 k2
  exact ⟨by omega, fun hk => by have := k2 hk; omega⟩

set_option maxRecDepth 100000 in
set_option maxHeartbeats 8000000 in
theorem FnBestReport_walk (a0 : Option Addr) (len0 cap0 : Nat) (z0 : List Int) (w : World) (w0 : IsRowC .u8 w a0 len0 cap0 z0) :
    Calls Try.prog 6 #[.slice a0 len0 cap0] w fun e w' => e = .returned (.bool true) ∧ Below w.heap.size w w' := by
  by_cases hlen : 1048576 < len0
  · clear w0
    go_enter Try.func6, Try.ntmps6
    go_wp2
    go_ret
    exact ⟨rfl, Below.refl _ _⟩
  · have hlen' : decide (1048576 < len0) = false := by simpa using hlen
    go_enter Try.func6, Try.ntmps6
    go_wp2_with fail
    refine (drawBestReport_any _ _ _ _ _ w0).mono ?_
    rintro e w1 ⟨tv, rv, t, rs, rfl, ord, srd, hl4, hl5, hl6, B1⟩
    have HB1 := Lib.hid B1
    obtain ⟨A, c, rfl, hl, hmx, -⟩ := id ord
    have HV : Hid (∀ wr, Below w1.heap.size w1 wr → IRd wr (.slice A t.length c) t) := Lib.hid (fun wr hb => ord.keep (SameAt.of_below hb))
    obtain ⟨A2, c2, rfl, hl2, hmx2⟩ := srd.form
    have HS : Hid (∀ wr, Below w1.heap.size w1 wr → SRd wr (.slice A2 rs.length c2) rs) := Lib.hid (fun wr hb => srd.below hb)
    clear ord srd B1 w0 hl6
    rcases Bool.eq_false_or_eq_true (bestB t rs) with h | h
    · obtain ⟨bn, s, hbn, hbl, hs, hnear⟩ := best_near h
      have HTW : Hid (∀ k r, rs[k]? = some r → twoB t r = true) := Lib.hid (fun k r hr => ((bestB_iff t rs).1 h).2.2 r (List.mem_of_getElem? hr))
      have HR := Lib.hid hbn
      have HNE := Lib.hid hnear
      have hbl' : (bn : Int) < (rs.length : Int) := by omega
      have hb0 : (0 : Int) ≤ (bn : Int) := by omega
      have hN0 := far_nonneg t s
      obtain ⟨N, hN⟩ : ∃ N, farI t s = N := ⟨_, rfl⟩
      have HN := Lib.hid hN
      have HFS : Hid (farR t s = N) := Lib.hid (by rw [farR, if_pos (HTW.out bn s hs), hN])
      rw [hN] at hN0
      have HSS := Lib.hid hs
      have C1 := Lib.hid (Below.refl w1.heap.size w1)
      have HC0 : Hid (∀ w', Below w1.heap.size w1 w' → ∀ b off, A2 = some ⟨b, off, none⟩ → ∀ k r, rs[k]? = some r → ∃ A3 c3, w'.cell? ⟨b, off + k, none⟩ = some (.slice A3 r.length c3) ∧ IRd w' (.slice A3 r.length c3) r) := Lib.hid (fun w' hb b off hA k r hr => by
        have hk : k < rs.length := (List.getElem?_eq_some_iff.1 hr).1
        obtain ⟨b', off', p, r', e, -, hr', hc, hp⟩ := (HS.out w' hb).at_ hk
        rw [hA] at e
        injection e with e
        injection e with e3 e4
        subst e3; subst e4
        rw [hr] at hr'
        obtain rfl := Option.some.inj hr'
        obtain ⟨A3, c3, rfl, -, -, -⟩ := id hp
        exact ⟨A3, c3, hc, hp⟩)
      clear h hbn hnear hN hs
      go_wp2_with fail
      refine (implBestReport_any w1 _ _ t rs (HV.out w1 C1.out) (HS.out w1 C1.out)).mono ?_
      rintro e w2 ⟨rfl, b2⟩
      rw [HR.out]
      have C2 := Lib.hid (below_step C1.out b2 C1.out.size)
      clear b2
      go_wp2_with fail
      refine (specBestReport_any w2 _ _ t rs (HV.out w2 C2.out) (HS.out w2 C2.out)).mono ?_
      rintro e w3 ⟨rfl, b3⟩
      rw [HR.out]
      have C3 := Lib.hid (below_step C2.out b3 C2.out.size)
      clear b3
      obtain ⟨b, off, p0, s0, rfl, -, -, -, -⟩ := (HS.out w3 C3.out).at_ hbl
      obtain ⟨A3, c3, hc3, hp3⟩ := HC0.out w3 C3.out b off rfl bn s HSS.out
      go_wp2_with fail
      refine (implFarApart_any w3 _ _ t s (HV.out w3 C3.out) hp3).mono ?_
      rintro e w4 ⟨rfl, b4⟩
      rw [HFS.out]
      have C4 := Lib.hid (below_step C3.out b4 C3.out.size)
      clear b4 hc3 hp3
      go_wp2_with fail
      go_loopw [7] (fun i wr => ∃ k : Nat, i = .int .i64 (k : Int) ∧ k ≤ rs.length ∧ Hid (Below w4.heap.size w4 wr)) (fun i _ => rs.length - (intOf i).toNat)
      case atStart => exact ⟨0, rfl, Nat.zero_le _, Lib.hid (Below.refl _ _)⟩
      case round =>
        obtain ⟨k, rfl, hk, HW⟩ := hrel
        by_cases hlt : k < rs.length
        · have hlt' : (k : Int) < (rs.length : Int) := by omega
          have hk0 : (0 : Int) ≤ (k : Int) := by omega
          obtain ⟨r, hr⟩ : ∃ r, rs[k]? = some r := ⟨_, List.getElem?_eq_getElem hlt⟩
          obtain ⟨A5, c5, hc, hp⟩ := HC0.out wr (below_step C4.out HW.out C4.out.size) b off rfl k r hr
          have hbw : b < wr.heap.size := World.block_lt_of_cell? wr _ hc
          have HC : Hid (∀ w', Below wr.heap.size wr w' → w'.cell? ⟨b, off + k, none⟩ = some (.slice A5 r.length c5) ∧ IRd w' (.slice A5 r.length c5) r) := Lib.hid (fun w' hb => ⟨(World.cell?_of_block (a := ⟨b, off + k, none⟩) (hb.block b hbw)).trans hc, hp.keep (SameAt.of_below hb)⟩)
          obtain ⟨q1, q2⟩ := HNE.out k r hr
          obtain ⟨f, hf⟩ : ∃ f, farI t r = f := ⟨_, rfl⟩
          have HFR : Hid (farR t r = f) := Lib.hid (by rw [farR, if_pos (HTW.out k r hr), hf])
          have HFN := Lib.hid hf
          rw [HN.out, hf] at q1 q2
          have hfn : decide (f < N) = false := decide_eq_false (by omega)
          have HP := Lib.hid hp
          clear hf hr
          by_cases hkb : k < bn
          · rcases Bool.eq_false_or_eq_true (decide (r = t)) with hd | hd
            · have hkb' : (k : Int) < (bn : Int) := by omega
              have hne : (f == N) = false := by
                have := q2 hkb
                have h9 : ¬ f = N := by omega
                simpa using h9
              have hN0 : (N != 0) = false := by
                have e : r = t := by simpa using hd
                have h9 : f = 0 := by
                  have := (far_zero (a := t) (b := r) (by rw [e])).2 e.symm
                  have h8 := HFN.out
                  omega
                have h7 : N = 0 := by omega
                rw [h7]; rfl
              have HD := Lib.hid hd
              clear hd hkb q1 q2
              go_wp2_with fail
              refine (implFarApart_any wr _ _ t r (HV.out wr (below_step C4.out HW.out C4.out.size)) hp).mono ?_
              rintro e w5 ⟨rfl, b5⟩
              rw [HFR.out]
              have D5 := Lib.hid (below_step HW.out b5 HW.out.size)
              obtain ⟨hc5, hp5⟩ := HC.out w5 b5
              clear b5
              go_wp2_with fail
              refine (sameInts_any w5 _ _ r t hp5 (HV.out w5 (below_step C4.out D5.out C4.out.size))).mono ?_
              rintro e w6 ⟨q6, rfl, hw6⟩
              rw [HD.out]
              have D6 : Hid (Below w4.heap.size w4 w6) := Lib.hid (by rw [hw6]; exact below_drewN D5.out q6)
              clear hw6
              go_wp2_with fail
              go_roundw
              case rel => exact ⟨k + 1, by go_num, by omega, D6⟩
              case measure => simp [intOf]; omega
            · have hkb' : (k : Int) < (bn : Int) := by omega
              have hne : (f == N) = false := by
                have := q2 hkb
                have h9 : ¬ f = N := by omega
                simpa using h9
              have HD := Lib.hid hd
              clear hd hkb q1 q2
              go_wp2_with fail
              refine (implFarApart_any wr _ _ t r (HV.out wr (below_step C4.out HW.out C4.out.size)) hp).mono ?_
              rintro e w5 ⟨rfl, b5⟩
              rw [HFR.out]
              have D5 := Lib.hid (below_step HW.out b5 HW.out.size)
              obtain ⟨hc5, hp5⟩ := HC.out w5 b5
              clear b5
              go_wp2_with fail
              refine (sameInts_any w5 _ _ r t hp5 (HV.out w5 (below_step C4.out D5.out C4.out.size))).mono ?_
              rintro e w6 ⟨q6, rfl, hw6⟩
              rw [HD.out]
              have D6 : Hid (Below w4.heap.size w4 w6) := Lib.hid (by rw [hw6]; exact below_drewN D5.out q6)
              clear hw6
              go_wp2_with fail
              go_roundw
              case rel => exact ⟨k + 1, by go_num, by omega, D6⟩
              case measure => simp [intOf]; omega
          · rcases Bool.eq_false_or_eq_true (decide (r = t)) with hd | hd
            · have hkb' : (bn : Int) ≤ (k : Int) := by omega
              have hkb2 : decide ((k : Int) < (bn : Int)) = false := decide_eq_false (by omega)
              have hN0 : (N != 0) = false := by
                have e : r = t := by simpa using hd
                have h9 : f = 0 := by
                  have := (far_zero (a := t) (b := r) (by rw [e])).2 e.symm
                  have h8 := HFN.out
                  omega
                have h7 : N = 0 := by omega
                rw [h7]; rfl
              have HD := Lib.hid hd
              clear hd hkb q1 q2
              go_wp2_with fail
              refine (implFarApart_any wr _ _ t r (HV.out wr (below_step C4.out HW.out C4.out.size)) hp).mono ?_
              rintro e w5 ⟨rfl, b5⟩
              rw [HFR.out]
              have D5 := Lib.hid (below_step HW.out b5 HW.out.size)
              obtain ⟨hc5, hp5⟩ := HC.out w5 b5
              clear b5
              go_wp2_with fail
              refine (sameInts_any w5 _ _ r t hp5 (HV.out w5 (below_step C4.out D5.out C4.out.size))).mono ?_
              rintro e w6 ⟨q6, rfl, hw6⟩
              rw [HD.out]
              have D6 : Hid (Below w4.heap.size w4 w6) := Lib.hid (by rw [hw6]; exact below_drewN D5.out q6)
              clear hw6
              go_wp2_with fail
              go_roundw
              case rel => exact ⟨k + 1, by go_num, by omega, D6⟩
              case measure => simp [intOf]; omega
            · have hkb' : (bn : Int) ≤ (k : Int) := by omega
              have hkb2 : decide ((k : Int) < (bn : Int)) = false := decide_eq_false (by omega)
              have HD := Lib.hid hd
              clear hd hkb q1 q2
              go_wp2_with fail
              refine (implFarApart_any wr _ _ t r (HV.out wr (below_step C4.out HW.out C4.out.size)) hp).mono ?_
              rintro e w5 ⟨rfl, b5⟩
              rw [HFR.out]
              have D5 := Lib.hid (below_step HW.out b5 HW.out.size)
              obtain ⟨hc5, hp5⟩ := HC.out w5 b5
              clear b5
              go_wp2_with fail
              refine (sameInts_any w5 _ _ r t hp5 (HV.out w5 (below_step C4.out D5.out C4.out.size))).mono ?_
              rintro e w6 ⟨q6, rfl, hw6⟩
              rw [HD.out]
              have D6 : Hid (Below w4.heap.size w4 w6) := Lib.hid (by rw [hw6]; exact below_drewN D5.out q6)
              clear hw6
              go_wp2_with fail
              go_roundw
              case rel => exact ⟨k + 1, by go_num, by omega, D6⟩
              case measure => simp [intOf]; omega
        · obtain rfl : k = rs.length := by omega
          have hlt' : decide ((rs.length : Int) < (rs.length : Int)) = false := by simp
          go_wp2_with fail
          go_ret
          exact ⟨rfl, below_step HB1.out (below_step C4.out HW.out C4.out.size) HB1.out.size⟩
    · have HR : Hid (bestR t rs = -1) := Lib.hid (by rw [bestR, h]; rfl)
      clear h
      have C1 := Lib.hid (Below.refl w1.heap.size w1)
      go_wp2_with fail
      refine (implBestReport_any w1 _ _ t rs (HV.out w1 C1.out) (HS.out w1 C1.out)).mono ?_
      rintro e w2 ⟨rfl, b2⟩
      rw [HR.out]
      have C2 := Lib.hid (below_step C1.out b2 C1.out.size)
      clear b2
      go_wp2_with fail
      refine (specBestReport_any w2 _ _ t rs (HV.out w2 C2.out) (HS.out w2 C2.out)).mono ?_
      rintro e w3 ⟨rfl, b3⟩
      rw [HR.out]
      have C3 := Lib.hid (below_step C2.out b3 C2.out.size)
      clear b3
      go_wp2_with fail
      refine (alive_any _).mono ?_
      rintro e w' ⟨rfl, rfl⟩

      go_wp2_with fail
      go_ret
      exact ⟨rfl, below_step HB1.out C3.out HB1.out.size⟩

end Go.Proofs.Ytnkgnhnggjoglaa
