/- The contract of spec's BestReport, and the facts of its answer. Conditions: rows that read. -/
import Derived.Test.YtnkgnhnggjoglaaFc
import Derived.Test.YtnkgnhnggjoglaaFd
namespace Go.Proofs.Ytnkgnhnggjoglaa
open Go.RowKit
set_option linter.unusedVariables false

def bestB (t : List Int) (rs : List (List Int)) : Bool := decide (1 ≤ rs.length) && (decide (rs.length ≤ 6) && rs.all (twoB t))

theorem bestB_iff (t : List Int) (rs : List (List Int)) : bestB t rs = true ↔ 1 ≤ rs.length ∧ rs.length ≤ 6 ∧ ∀ r ∈ rs, twoB t r = true := by
  simp only [bestB, Bool.and_eq_true, decide_eq_true_eq, List.all_eq_true]

/-- the place of the first least one of the first k, or -1 -/
def bstI (t : List Int) (rs : List (List Int)) : Nat → Int
  | 0 => -1
  | k + 1 => (bestF t rs k : Int)

def bestR (t : List Int) (rs : List (List Int)) : Int := if bestB t rs = true then bstI t rs rs.length else -1

theorem getD_of {rs : List (List Int)} {k : Nat} {r : List Int} (h : rs[k]? = some r) : rs.getD k [] = r := by
  rw [List.getD_eq_getElem?_getD, h]; rfl

theorem bstI_one (t : List Int) (rs : List (List Int)) : bstI t rs (0 + 1) = 0 := rfl

theorem bstI_step {t : List Int} {rs : List (List Int)} {k b : Nat} {r s : List Int} (hk : 0 < k) (hb : bstI t rs k = (b : Int)) (hr : rs[k]? = some r) (hs : rs[b]? = some s) :
    bstI t rs (k + 1) = if expI t r < expI t s then (k : Int) else (b : Int) := by
  obtain ⟨j, rfl⟩ : ∃ j, k = j + 1 := ⟨k - 1, by omega⟩
  have hbf : bestF t rs j = b := by have h : ((bestF t rs j : Nat) : Int) = (b : Int) := hb; omega
  show ((bestF t rs (j + 1) : Nat) : Int) = _
  rw [bestF, hbf, getD_of hr, getD_of hs]
  split <;> rfl

theorem bstI_lt {t : List Int} {rs : List (List Int)} {k : Nat} (hk : 0 < k) : ∃ b : Nat, bstI t rs k = (b : Int) ∧ b < k := by
  obtain ⟨j, rfl⟩ : ∃ j, k = j + 1 := ⟨k - 1, by omega⟩
  exact ⟨_, rfl, by have := best_le t rs j; omega⟩

theorem two_take {t : List Int} {rs : List (List Int)} {k : Nat} {r : List Int} (h : rs[k]? = some r) (ht : twoB t r = true) (ih : ∀ x ∈ rs.take k, twoB t x = true) : ∀ x ∈ rs.take (k + 1), twoB t x = true := by
  intro x hx
  rw [List.take_add_one, h, Option.toList_some, List.mem_append, List.mem_singleton] at hx
  rcases hx with hx | rfl
  · exact ih x hx
  · exact ht

theorem two_mem {t : List Int} {rs : List (List Int)} {k b : Nat} {r : List Int} (h : rs[b]? = some r) (hb : b < k) (ih : ∀ x ∈ rs.take k, twoB t x = true) : twoB t r = true := by
  refine ih r (List.mem_of_getElem? (i := b) ?_)
  rw [List.getElem?_take, if_pos hb, h]

theorem expR_of {t r : List Int} (h : twoB t r = true) : expR t r = expI t r ∧ 0 ≤ expI t r := by
  refine ⟨by rw [expR, if_pos h], ?_⟩
  obtain ⟨h1, h2, h3⟩ := (twoB_iff t r).1 h
  exact exp_nonneg h1 r

theorem best_bad {t : List Int} {rs : List (List Int)} {k : Nat} {r : List Int} (h : rs[k]? = some r) (ht : twoB t r = false) : bestR t rs = -1 := by
  rw [bestR, if_neg]
  intro hb
  have := ((bestB_iff t rs).1 hb).2.2 r (List.mem_of_getElem? h)
  rw [ht] at this; cases this

set_option maxRecDepth 100000 in
set_option maxHeartbeats 8000000 in
theorem specBestReport_any (w : World) (v u : Value) (t : List Int) (rs : List (List Int)) (hv : IRd w v t) (hu : SRd w u rs) :
    Calls Try.prog 32 #[v, u] w (IntPost (bestR t rs) w) := by
  obtain ⟨A', c', rfl, hl', hm'⟩ := hu.form
  have HV : Hid (∀ wr, Below w.heap.size w wr → IRd wr v t) := Lib.hid (fun wr hb => hv.keep (SameAt.of_below hb))
  have HU : Hid (∀ wr, Below w.heap.size w wr → SRd wr (.slice A' rs.length c') rs) := Lib.hid (fun wr hb => hu.below hb)
  obtain ⟨A, c, rfl, hl, hmx, -⟩ := id hv
  clear hv hu
  by_cases h6 : rs.length ≤ 6
  · have h6' : (rs.length : Int) ≤ 6 := by omega
    go_enter Try.func32, Try.ntmps32
    go_wp2_with fail
    go_loopw [5, 6] (fun s i wr => ∃ (k : Nat) (b : Int), i = .int .i64 (k : Int) ∧ s = .int .i64 b ∧ k ≤ rs.length ∧ Hid (bstI t rs k = b) ∧ Hid (∀ r ∈ rs.take k, twoB t r = true) ∧ Hid (Below w.heap.size w wr)) (fun _ i _ => rs.length - (intOf i).toNat)
    case atStart => exact ⟨0, -1, rfl, rfl, Nat.zero_le _, Lib.hid rfl, Lib.hid (by simp), Lib.hid (Below.refl _ _)⟩
    case round =>
      obtain ⟨k, b0, rfl, rfl, hk, HBI, HA, HB⟩ := hrel
      by_cases hlt : k < rs.length
      · have hlt' : (k : Int) < (rs.length : Int) := by omega
        obtain ⟨b, off, p, r, rfl, -, hr, hc, hp⟩ := (HU.out wr HB.out).at_ hlt
        obtain ⟨A2, c2, rfl, -, -, -⟩ := id hp
        have HR := Lib.hid hr
        have HP : Hid (∀ w2, Below wr.heap.size wr w2 → IRd w2 (.slice A2 r.length c2) r) := Lib.hid (fun w2 h => hp.keep (SameAt.of_below h))
        clear hr hp
        rcases Bool.eq_false_or_eq_true (twoB t r) with h2 | h2
        · obtain ⟨e1, e2⟩ := expR_of h2
          have HA2 := Lib.hid (two_take HR.out h2 HA.out)
          obtain ⟨n, hn⟩ : ∃ n, expI t r = n := ⟨_, rfl⟩
          rw [hn] at e1 e2
          have HE1 := Lib.hid e1
          have HNN := Lib.hid hn
          have hn0 : 0 ≤ n := e2
          clear e1 hn h2 e2
          rcases Nat.eq_zero_or_pos k with hk0 | hk0
          · subst hk0
            have hb0 : b0 = -1 := HBI.out.symm
            subst hb0
            have hc' : wr.cell? ⟨b, off, none⟩ = some (.slice A2 r.length c2) := hc
            go_wp2_with fail
            refine (specExpectedScore_any wr _ _ t r (HV.out wr HB.out) (HP.out wr (Below.refl _ _))).mono ?_
            rintro q w2 ⟨rfl, b2⟩
            rw [HE1.out]
            have HB2 := Lib.hid (below_step HB.out b2 HB.out.size)
            clear b2
            go_wp2_with fail
            go_roundw
            case rel => exact ⟨0 + 1, 0, by first | rfl | go_num, rfl, by omega, Lib.hid rfl, HA2, HB2⟩
            case measure => simp [intOf]; omega
          · obtain ⟨bn, hbn, hbk⟩ := bstI_lt (t := t) (rs := rs) hk0
            obtain rfl : b0 = (bn : Int) := HBI.out.symm.trans hbn
            have hbl : bn < rs.length := by omega
            have hbl' : (bn : Int) < (rs.length : Int) := by omega
            have HC2 : Hid (∀ w2, Below w.heap.size w w2 → ∃ A3 c3 s, rs[bn]? = some s ∧ w2.cell? ⟨b, off + bn, none⟩ = some (.slice A3 s.length c3) ∧ IRd w2 (.slice A3 s.length c3) s) := Lib.hid (fun w2 h => by
              obtain ⟨b', off', p', s, e, -, hs, hc', hp'⟩ := (HU.out w2 h).at_ hbl
              injection e with e
              injection e with e3 e4
              subst e3; subst e4
              obtain ⟨A3, c3, rfl, -, -, -⟩ := id hp'
              exact ⟨A3, c3, s, hs, hc', hp'⟩)
            go_wp2_with fail
            refine (specExpectedScore_any wr _ _ t r (HV.out wr HB.out) (HP.out wr (Below.refl _ _))).mono ?_
            rintro q w2 ⟨rfl, b2⟩
            rw [HE1.out]
            have HB2 := Lib.hid (below_step HB.out b2 HB.out.size)
            clear b2
            obtain ⟨A3, c3, s, hs, hc3, hp3⟩ := HC2.out w2 HB2.out
            obtain ⟨e3, e4⟩ := expR_of (two_mem hs hbk HA.out)
            obtain ⟨m, hm⟩ : ∃ m, expI t s = m := ⟨_, rfl⟩
            rw [hm] at e3
            have HE3 := Lib.hid e3
            have HST := Lib.hid (bstI_step hk0 hbn HR.out hs)
            rw [HNN.out, hm] at HST
            have HP3 := Lib.hid hp3
            clear e3 e4 hm hs hp3 hbn
            by_cases hnm : n < m
            · have HBN : Hid (bstI t rs (k + 1) = (k : Int)) := Lib.hid (by rw [HST.out, if_pos hnm])
              go_wp2_with fail
              refine (specExpectedScore_any w2 _ _ t s (HV.out w2 HB2.out) HP3.out).mono ?_
              rintro q w3 ⟨rfl, b3⟩
              rw [HE3.out]
              have HB3 := Lib.hid (below_step HB2.out b3 HB2.out.size)
              clear b3
              go_wp2_with fail
              go_roundw
              case rel => exact ⟨k + 1, k, by go_num, rfl, by omega, HBN, HA2, HB3⟩
              case measure => simp [intOf]; omega
            · have HBN : Hid (bstI t rs (k + 1) = (bn : Int)) := Lib.hid (by rw [HST.out, if_neg hnm])
              have hnm' : decide (n < m) = false := decide_eq_false hnm
              go_wp2_with fail
              refine (specExpectedScore_any w2 _ _ t s (HV.out w2 HB2.out) HP3.out).mono ?_
              rintro q w3 ⟨rfl, b3⟩
              rw [HE3.out]
              have HB3 := Lib.hid (below_step HB2.out b3 HB2.out.size)
              clear b3
              go_wp2_with fail
              go_roundw
              case rel => exact ⟨k + 1, bn, by go_num, rfl, by omega, HBN, HA2, HB3⟩
              case measure => simp [intOf]; omega
        · have HE1 : Hid (expR t r = -1) := Lib.hid (by rw [expR, h2]; rfl)
          have HRR := Lib.hid (best_bad HR.out h2)
          go_wp2_with fail
          refine (specExpectedScore_any wr _ _ t r (HV.out wr HB.out) (HP.out wr (Below.refl _ _))).mono ?_
          rintro q w2 ⟨rfl, b2⟩
          rw [HE1.out]
          have HB2 := Lib.hid (below_step HB.out b2 HB.out.size)
          clear b2
          go_wp2_with fail
          go_ret
          exact ⟨by rw [HRR.out]; rfl, HB2.out⟩
      · obtain rfl : k = rs.length := by omega
        have hlt' : decide ((rs.length : Int) < (rs.length : Int)) = false := by simp
        have HRR : Hid (bestR t rs = b0) := Lib.hid (by
          have h1 := HA.out
          rw [List.take_length] at h1
          rw [← HBI.out]
          rcases Nat.eq_zero_or_pos rs.length with h0 | h0
          · rw [bestR, if_neg (fun h => by have := ((bestB_iff t rs).1 h).1; omega), h0]; rfl
          · rw [bestR, if_pos ((bestB_iff t rs).2 ⟨h0, h6, h1⟩)])
        go_wp2_with fail
        go_ret
        exact ⟨by rw [HRR.out]; rfl, HB.out⟩
  · have h6' : (6 : Int) < (rs.length : Int) := by omega
    have hd : decide ((rs.length : Int) ≤ 6) = false := by simp; omega
    have h0 : (0 : Int) < (rs.length : Int) := by omega
    have HRR : Hid (bestR t rs = -1) := Lib.hid (by rw [bestR, if_neg (fun h => h6 ((bestB_iff t rs).1 h).2.1)])
    go_enter Try.func32, Try.ntmps32
    go_wp2_with fail
    refine wp_loop_rounds 1 ?_
    rw [rounds_succ]
    go_wp2_with fail
    go_ret
    exact ⟨by rw [HRR.out]; rfl, Below.refl _ _⟩

end Go.Proofs.Ytnkgnhnggjoglaa
