/- Contracts of spec's chapter 13: BidsOk, l13Fits, FitsSides, SidesFair. Conditions: rows that read as lists. (gen_jb.py) -/
import Derived.Test.YtodmgcbcacblbaaJd
import Derived.Test.YtodmgcbcacblbaaMe
import Derived.BigQuiet
import Derived.Deep.QuietTactic
namespace Go.Proofs.Ytodmgcbcacblbaa
open Go.RowKit
set_option linter.unusedVariables false

theorem bids_no {n : Int} {bs : List Bt} {k : Nat} {b : Bt} (h : bs[k]? = some b) (hb : bidB n b = false) : bidsB n bs = false := by
  rw [← Bool.not_eq_true, bidsB_iff]
  rintro ⟨-, -, h3⟩
  rw [h3 b (List.mem_of_getElem? h)] at hb; cases hb

theorem bids_all {n : Int} {bs : List Bt} {k : Nat} (hk : bs.length ≤ k) (h : ∀ y ∈ bs.take k, bidB n y = true) : bidsB n bs = (inB n 1 4 && decide (bs.length ≤ 3)) := by
  rw [List.take_of_length_le hk] at h
  have : bs.all (bidB n) = true := List.all_eq_true.2 h
  rw [bidsB, this, Bool.true_and]

theorem takeb13 {P : Bt → Prop} {bs : List Bt} {k : Nat} {b : Bt} (h : bs[k]? = some b) (ih : ∀ y ∈ bs.take k, P y) (hb : P b) : ∀ y ∈ bs.take (k + 1), P y := by
  intro y hy
  rw [List.take_add_one, h, Option.toList_some, List.mem_append, List.mem_singleton] at hy
  rcases hy with hy | rfl
  · exact ih y hy
  · exact hb

theorem ev_q13 (n e : Int) (t : Bool) (h : evB n e = t) (W : World) : Calls Try.prog 61 #[.int .i64 n, .int .i64 e] W fun r w' => r = .returned (.bool t) ∧ w' = W :=
  (specEventOk_any n e W).mono (fun r w' hh => ⟨by rw [hh.1, h], hh.2.symm⟩)

theorem in_q13 (n l h : Int) (t : Bool) (hi : inB n l h = t) (W : World) : Calls Try.prog 62 #[.int .i64 n, .int .i64 l, .int .i64 h] W fun r w' => r = .returned (.bool t) ∧ w' = W :=
  (l1In_any n l h W).mono (fun r w' hh => ⟨by rw [hh.1, hi], hh.2.symm⟩)

set_option maxRecDepth 100000 in
set_option maxHeartbeats 4000000 in
theorem specBidsOk_any (w : World) (n : Int) (v : Value) (bs : List Bt) (hv : BRd w v bs) :
    Calls Try.prog 19 #[.int .i64 n, v] w (BoolPost (bidsB n bs) w) := by
  obtain ⟨A, c, rfl, hl, hm⟩ := hv.form
  have HV := Lib.hid hv
  clear hv
  go_enter Try.func19, Try.ntmps19
  go_wp2_with fail
  go_loopw [5] (fun i wr => ∃ k : Nat, i = .int .i64 (k : Int) ∧ k ≤ bs.length ∧ Hid (∀ y ∈ bs.take k, bidB n y = true) ∧ Hid (Below w.heap.size w wr)) (fun i _ => bs.length - (intOf i).toNat)
  case atStart => exact ⟨0, rfl, Nat.zero_le _, Lib.hid (by simp), Lib.hid (Below.refl _ _)⟩
  case round =>
    obtain ⟨k, rfl, hk, HA, HB⟩ := hrel
    by_cases hlt : k < bs.length
    · have hlt' : (k : Int) < (bs.length : Int) := by omega
      have hk0 : (0 : Int) ≤ (k : Int) := by omega
      obtain ⟨b, off, ⟨e, lo, hi⟩, rfl, -, hx, hc0, hc1, hc2⟩ := BRd.at_ (HV.out.keep (SameAt.of_below HB.out)) hlt
      have hc0 : wr.cell? ⟨b, off + k * 3, none⟩ = some (.int .i64 e) := hc0
      have hc1 : wr.cell? ⟨b, off + k * 3 + 1, none⟩ = some (.int .i64 lo) := hc1
      have hc2 : wr.cell? ⟨b, off + k * 3 + 2, none⟩ = some (.int .i64 hi) := hc2
      have HX := Lib.hid hx
      clear hx
      obtain ⟨t, ht⟩ : ∃ t, evB n e = t := ⟨_, rfl⟩
      have Q1 := ev_q13 n e t ht
      cases t
      · have HQ : Hid (bidB n (e, lo, hi) = false) := Lib.hid (by rw [bidB]; show (evB n e && _) = false; rw [ht]; rfl)
        clear ht
        go_wp2_with fail
        go_quiet ((go_at_call 61; exact Calls.quiet_of_same (Q1 _)))
        go_wp2_with fail
        go_ret
        exact ⟨ret_bool (bids_no HX.out HQ.out).symm, below_drewN HB.out _⟩
      · obtain ⟨s, hs⟩ : ∃ s, inB lo 0 hi = s := ⟨_, rfl⟩
        have Q2 := in_q13 lo 0 hi s hs
        cases s
        · have HQ : Hid (bidB n (e, lo, hi) = false) := Lib.hid (by rw [bidB]; show (evB n e && (inB lo 0 hi && _)) = false; rw [hs]; simp)
          clear ht hs
          go_wp2_with fail
          go_quiet (first | (go_at_call 61; exact Calls.quiet_of_same (Q1 _)) | (go_at_call 62; exact Calls.quiet_of_same (Q2 _)))
          go_wp2_with fail
          go_ret
          exact ⟨ret_bool (bids_no HX.out HQ.out).symm, below_drewN HB.out _⟩
        · by_cases h6 : hi ≤ 6
          · have h6' : decide ((6 : Int) < hi) = false := by simp; omega
            have HQ : Hid (bidB n (e, lo, hi) = true) := Lib.hid (by rw [bidB]; show (evB n e && (inB lo 0 hi && decide (hi ≤ 6))) = true; rw [ht, hs, decide_eq_true h6]; rfl)
            clear ht hs
            go_wp2_with fail
            go_quiet (first | (go_at_call 61; exact Calls.quiet_of_same (Q1 _)) | (go_at_call 62; exact Calls.quiet_of_same (Q2 _)))
            go_wp2_with fail
            go_roundw
            case rel => exact ⟨k + 1, by go_num, by omega, Lib.hid (takeb13 HX.out HA.out HQ.out), Lib.hid (below_drewN HB.out _)⟩
            case measure => simp [intOf]; omega
          · have h6' : decide ((6 : Int) < hi) = true := by simp; omega
            have HQ : Hid (bidB n (e, lo, hi) = false) := Lib.hid (by rw [bidB]; show (evB n e && (inB lo 0 hi && decide (hi ≤ 6))) = false; rw [decide_eq_false h6]; simp)
            clear ht hs
            go_wp2_with fail
            go_quiet (first | (go_at_call 61; exact Calls.quiet_of_same (Q1 _)) | (go_at_call 62; exact Calls.quiet_of_same (Q2 _)))
            go_wp2_with fail
            go_ret
            exact ⟨ret_bool (bids_no HX.out HQ.out).symm, below_drewN HB.out _⟩
    · have HN := Lib.hid (bids_all (n := n) (bs := bs) (k := k) (by omega) HA.out)
      obtain ⟨t, ht⟩ : ∃ t, inB n 1 4 = t := ⟨_, rfl⟩
      have HT := Lib.hid ht
      obtain rfl : k = bs.length := by omega
      have hlt' : decide ((bs.length : Int) < (bs.length : Int)) = false := by simp
      clear ht
      by_cases h3 : bs.length ≤ 3
      · have h3' : decide ((bs.length : Int) ≤ 3) = true := by simp; omega
        cases t
        all_goals
          go_wp2_with fail
          refine (l1In_any n _ _ _).mono ?_
          rintro r w' ⟨rfl, rfl⟩
          rw [HT.out]
          go_wp2_with fail
          go_ret
          exact ⟨ret_bool (by rw [HN.out, HT.out, decide_eq_true h3]; rfl), HB.out⟩
      · have h3' : decide ((bs.length : Int) ≤ 3) = false := by simp; omega
        cases t
        all_goals
          go_wp2_with fail
          refine (l1In_any n _ _ _).mono ?_
          rintro r w' ⟨rfl, rfl⟩
          rw [HT.out]
          go_wp2_with fail
          go_ret
          exact ⟨ret_bool (by rw [HN.out, HT.out, decide_eq_false h3]; rfl), HB.out⟩

/-- bids whose events and prices are small -/
def Bids (bs : List Bt) : Prop := ∀ b ∈ bs, (0 ≤ b.1 ∧ b.1 ≤ 15) ∧ (0 ≤ b.2.1 ∧ b.2.1 ≤ 6) ∧ (0 ≤ b.2.2 ∧ b.2.2 ≤ 6)

theorem bids_of {n : Int} {bs : List Bt} (h : bidsB n bs = true) : Bids bs := by
  obtain ⟨h1, h2, h3⟩ := (bidsB_iff _ _).1 h
  intro b hb
  obtain ⟨k1, k2, k3⟩ := (bidB_iff _ _).1 (h3 b hb)
  exact ⟨evB_15 k1, by omega, by omega⟩

theorem sfit_no {m : List Int} {bs : List Bt} {k : Nat} {b : Bt} (h : bs[k]? = some b) (hb : ¬ (6 * b.2.1 ≤ onI m b.1 ∧ onI m b.1 ≤ 6 * b.2.2)) : sfitI m bs = false := by
  rw [← Bool.not_eq_true, sfitI_iff]
  exact fun hh => hb (hh b (List.mem_of_getElem? h))

set_option maxHeartbeats 4000000 in
theorem l13Fits_any (w : World) (v u : Value) (m : List Int) (bs : List Bt) (hv : IRd w v m) (hu : BRd w u bs) (hm : Grs m) (hb : Bids bs) :
    Calls Try.prog 69 #[v, u] w (BoolPost (sfitI m bs) w) := by
  obtain ⟨A, c, rfl, hl, hmx⟩ := hu.form
  have HV := Lib.hid hv
  have HU := Lib.hid hu
  have HM := Lib.hid hm
  have HBS := Lib.hid hb
  clear hv hu hm hb
  go_enter Try.func69, Try.ntmps69
  go_wp2_with fail
  go_loopw [5] (fun i wr => ∃ k : Nat, i = .int .i64 (k : Int) ∧ k ≤ bs.length ∧ Hid (∀ y ∈ bs.take k, 6 * y.2.1 ≤ onI m y.1 ∧ onI m y.1 ≤ 6 * y.2.2) ∧ Hid (Below w.heap.size w wr)) (fun i _ => bs.length - (intOf i).toNat)
  case atStart => exact ⟨0, rfl, Nat.zero_le _, Lib.hid (by simp), Lib.hid (Below.refl _ _)⟩
  case round =>
    obtain ⟨k, rfl, hk, HA, HB⟩ := hrel
    by_cases hlt : k < bs.length
    · have hlt' : (k : Int) < (bs.length : Int) := by omega
      have hk0 : (0 : Int) ≤ (k : Int) := by omega
      obtain ⟨b, off, ⟨e, lo, hi⟩, rfl, -, hx, hc0, hc1, hc2⟩ := BRd.at_ (HU.out.keep (SameAt.of_below HB.out)) hlt
      obtain ⟨⟨e1, e2⟩, ⟨l1, l2⟩, h1, h2⟩ := HBS.out _ (List.mem_of_getElem? hx)
      have e1 : 0 ≤ e := e1
      have e2 : e ≤ 15 := e2
      have l1 : 0 ≤ lo := l1
      have l2 : lo ≤ 6 := l2
      have h1 : 0 ≤ hi := h1
      have h2 : hi ≤ 6 := h2
      have hc0 : wr.cell? ⟨b, off + k * 3, none⟩ = some (.int .i64 e) := hc0
      have HX := Lib.hid hx
      clear hx hc1 hc2
      obtain ⟨N, hN⟩ : ∃ N, onI m e = N := ⟨_, rfl⟩
      obtain ⟨n1, n2⟩ : 0 ≤ N ∧ N ≤ 144 := by
        have := grs_on HM.out e m.length
        rw [List.take_length, hN] at this
        exact this
      have HNN := Lib.hid hN
      clear hN
      have hw6 : IntKind.i64.wrap (N * 6) = N * 6 := IntWalk.i64_in _ (by omega)
      have hwl : IntKind.i64.wrap (lo * 36) = lo * 36 := IntWalk.i64_in _ (by omega)
      have hwh : IntKind.i64.wrap (hi * 36) = hi * 36 := IntWalk.i64_in _ (by omega)
      go_wp2_with fail
      refine (l4On_any wr _ m e (HV.out.keep (SameAt.of_below HB.out)) HM.out e1 e2).mono ?_
      rintro r w2 ⟨rfl, b2⟩
      rw [HNN.out]
      have HB2 := Lib.hid (below_step HB.out b2 HB.out.size)
      clear b2 hc0
      obtain ⟨b', off', ⟨e', lo', hi'⟩, hadr, -, hx, -, hc1, hc2⟩ := BRd.at_ (HU.out.keep (SameAt.of_below HB2.out)) hlt
      rw [HX.out] at hx
      injection hx with hx
      injection hx with x1 x2
      injection x2 with x2 x3
      subst x1; subst x2; subst x3
      injection hadr with hadr
      injection hadr with y1 y2
      subst y1; subst y2
      have hc1 : w2.cell? ⟨b, off + k * 3 + 1, none⟩ = some (.int .i64 lo) := hc1
      have hc2 : w2.cell? ⟨b, off + k * 3 + 2, none⟩ = some (.int .i64 hi) := hc2
      by_cases c1 : N * 6 < lo * 36
      · have HF := Lib.hid (sfit_no (m := m) HX.out (by show ¬ (6 * lo ≤ onI m e ∧ onI m e ≤ 6 * hi); rw [HNN.out]; omega))
        go_wp2_with fail
        go_ret
        exact ⟨ret_bool HF.out.symm, HB2.out⟩
      · have c1' : decide (N * 6 < lo * 36) = false := decide_eq_false c1
        by_cases c2 : hi * 36 < N * 6
        · have HF := Lib.hid (sfit_no (m := m) HX.out (by show ¬ (6 * lo ≤ onI m e ∧ onI m e ≤ 6 * hi); rw [HNN.out]; omega))
          go_wp2_with fail
          go_ret
          exact ⟨ret_bool HF.out.symm, HB2.out⟩
        · have c2' : decide (hi * 36 < N * 6) = false := decide_eq_false c2
          have HN2 := Lib.hid (takeb13 (P := fun y => 6 * y.2.1 ≤ onI m y.1 ∧ onI m y.1 ≤ 6 * y.2.2) HX.out HA.out (by show 6 * lo ≤ onI m e ∧ onI m e ≤ 6 * hi; rw [HNN.out]; omega))
          go_wp2_with fail
          go_roundw
          case rel => exact ⟨k + 1, by go_num, by omega, HN2, HB2⟩
          case measure => simp [intOf]; omega
    · obtain rfl : k = bs.length := by omega
      have hlt' : decide ((bs.length : Int) < (bs.length : Int)) = false := by simp
      have HF : Hid (sfitI m bs = true) := Lib.hid ((sfitI_iff m bs).2 (by have := HA.out; rwa [List.take_length] at this))
      go_wp2_with fail
      go_ret
      exact ⟨ret_bool HF.out.symm, HB.out⟩

set_option maxHeartbeats 2000000 in
theorem specFitsSides_any (w : World) (v u : Value) (m : List Int) (bs : List Bt) (hv : IRd w v m) (hu : BRd w u bs) :
    Calls Try.prog 24 #[v, u] w (BoolPost (sfitB m bs) w) := by
  obtain ⟨A, c, rfl, hl, hmx, -⟩ := id hv
  have HV := Lib.hid hv
  have HU := Lib.hid hu
  clear hv hu
  rcases Bool.eq_false_or_eq_true (meaB m) with h | h
  · rcases Bool.eq_false_or_eq_true (bidsB (m.length : Int) bs) with k | k
    · have HR : Hid (sfitB m bs = sfitI m bs) := Lib.hid (by rw [sfitB, h, k]; rfl)
      have HG := Lib.hid (grs_of h)
      have HQ := Lib.hid (bids_of k)
      go_enter Try.func24, Try.ntmps24
      go_wp2_with fail
      refine (specMeasureOk_any _ _ _ HV.out).mono ?_
      rintro r w' ⟨rfl, rfl⟩
      rw [h]
      go_wp2_with fail
      refine (specBidsOk_any _ _ _ _ HU.out).mono ?_
      rintro r w2 ⟨rfl, b2⟩
      rw [k]
      have HB2 := Lib.hid b2
      clear b2
      go_wp2_with fail
      refine (l13Fits_any _ _ _ m bs (HV.out.keep (SameAt.of_below HB2.out)) (HU.out.keep (SameAt.of_below HB2.out)) HG.out HQ.out).mono ?_
      rintro r w3 ⟨rfl, b3⟩
      have HB3 := Lib.hid (below_step HB2.out b3 HB2.out.size)
      clear b3
      go_wp2_with fail
      go_ret
      exact ⟨ret_bool HR.out.symm, HB3.out⟩
    · have HR : Hid (sfitB m bs = false) := Lib.hid (by rw [sfitB, h, k]; rfl)
      go_enter Try.func24, Try.ntmps24
      go_wp2_with fail
      refine (specMeasureOk_any _ _ _ HV.out).mono ?_
      rintro r w' ⟨rfl, rfl⟩
      rw [h]
      go_wp2_with fail
      refine (specBidsOk_any _ _ _ _ HU.out).mono ?_
      rintro r w2 ⟨rfl, b2⟩
      rw [k]
      have HB2 := Lib.hid b2
      clear b2
      go_wp2_with fail
      go_ret
      exact ⟨ret_bool HR.out.symm, HB2.out⟩
  · have HR : Hid (sfitB m bs = false) := Lib.hid (by rw [sfitB, h]; rfl)
    go_enter Try.func24, Try.ntmps24
    go_wp2_with fail
    refine (specMeasureOk_any _ _ _ HV.out).mono ?_
    rintro r w' ⟨rfl, rfl⟩
    rw [h]
    go_wp2_with fail
    go_ret
    exact ⟨ret_bool HR.out.symm, Below.refl _ _⟩

theorem sfair_at {n : Nat} {bs : List Bt} (h : bidsB (n : Int) bs = true) {d : Nat} {l : List Nat} (hd : (lay n 36)[d]? = some l) (h1 : sfitI (natL l) bs = true) : sfairB (n : Int) bs = true := by
  rw [sfairB, h, Int.toNat_natCast, Bool.true_and, anyS, List.any_eq_true]
  exact ⟨l, List.mem_of_getElem? hd, h1⟩

theorem sfair_none {n : Nat} {bs : List Bt} (hno : ∀ j, j < (lay n 36).length → ∀ x, (lay n 36)[j]? = some x → sfitI (natL x) bs = false) : sfairB (n : Int) bs = false := by
  rw [sfairB, Int.toNat_natCast]
  have : anyS n bs = false := by
    rw [anyS, List.any_eq_false]
    intro x hx
    obtain ⟨j, hj, e⟩ := List.getElem_of_mem hx
    rw [hno j hj x (by rw [← e]; exact List.getElem?_eq_getElem hj)]; simp
  rw [this, Bool.and_false]

set_option maxHeartbeats 8000000 in
theorem specSidesFair_any (w : World) (n : Int) (v : Value) (bs : List Bt) (hv : BRd w v bs) :
    Calls Try.prog 27 #[.int .i64 n, v] w (BoolPost (sfairB n bs) w) := by
  have HV := Lib.hid hv
  clear hv
  rcases Bool.eq_false_or_eq_true (bidsB n bs) with h | h
  · have H := Lib.hid h
    have HQ := Lib.hid (bids_of h)
    have hw1 : 1 ≤ n := ((bidsB_iff _ _).1 h).1.1
    have hw2 : n ≤ 4 := ((bidsB_iff _ _).1 h).1.2
    obtain ⟨m, rfl⟩ : ∃ m : Nat, n = m := ⟨n.toNat, by omega⟩
    have hm1 : 1 ≤ m := by omega
    have hm4 : m ≤ 4 := by omega
    go_enter Try.func27, Try.ntmps27
    go_wp2_with fail
    refine (specBidsOk_any _ _ _ _ HV.out).mono ?_
    rintro r w2 ⟨rfl, b2⟩
    rw [h]
    have HB2 := Lib.hid b2
    have HV2 := Lib.hid (HV.out.keep (SameAt.of_below b2))
    clear b2 h
    go_wp2_with fail
    refine (l4First_any w2 m 36 hm1 hm4).mono ?_
    rintro r w3 ⟨u, rfl, o3, b3⟩
    have H0 := Lib.hid (WkRel.start hm1 o3 b3)
    clear o3 b3
    obtain ⟨L, hL⟩ : ∃ L, (lay m 36).length = L := ⟨_, rfl⟩
    have HL := Lib.hid hL
    clear hL
    go_wp2_with fail
    go_loopg [6] (L + 1) (fun gk s wr => ∃ (d : Nat) (t : Bool), gk = L + 1 - d ∧ d ≤ L ∧ s = .bool t ∧ Hid (∀ j, j < d → ∀ x, (lay m 36)[j]? = some x → sfitI (natL x) bs = false) ∧ Hid (WkRel w2 m 36 u d t wr))
    case atStart => exact ⟨0, true, by omega, Nat.zero_le _, rfl, Lib.hid (fun j hj => absurd hj (Nat.not_lt_zero _)), H0⟩
    case round =>
      obtain ⟨d, t, hgk, hd, rfl, HX, HW⟩ := hrel
      clear H0
      cases t
      · have HF : Hid (sfairB (m : Int) bs = false) := Lib.hid (sfair_none (by
          obtain ⟨-, l, -, -, h2⟩ := HW.out
          rw [h2 rfl]
          exact HX.out))
        have HB := Lib.hid (below_step HB2.out HW.out.1 HB2.out.size)
        go_wp2_with fail
        go_ret
        exact ⟨ret_bool HF.out.symm, HB.out⟩
      · obtain ⟨-, l, ol, hl, -⟩ := id HW.out
        have hl := hl rfl
        have HLL := Lib.hid hl
        have hdL : d < L := by rw [← HL.out]; exact (List.getElem?_eq_some_iff.1 hl).1
        obtain ⟨hf1, hf2⟩ := lay_facts hm1 hl
        have HOL := Lib.hid ol
        have HG : Hid (Grs (natL l)) := Lib.hid (grs_of ((mea_lay (natL l)).2 ⟨by rw [natL_len]; omega, l, by rw [natL_len, hf1]; exact List.mem_of_getElem? hl, rfl⟩))
        clear hl ol
        obtain ⟨fb, hfb⟩ : ∃ fb, sfitI (natL l) bs = fb := ⟨_, rfl⟩
        have HFB := Lib.hid hfb
        clear hfb
        go_wp2_with fail
        refine (l13Fits_any wr u v (natL l) bs HOL.out.rd (HV2.out.keep (SameAt.of_below HW.out.1)) HG.out HQ.out).mono ?_
        rintro r w6 ⟨rfl, b5⟩
        rw [HFB.out]
        have HW6 := Lib.hid (HW.out.keep b5)
        have HOL6 := Lib.hid (HOL.out.keep (SameAt.of_below b5))
        clear b5
        cases fb
        · go_wp2_with fail
          refine (l4Step_any w6 w2.heap.size u l (by omega) (by omega) (by omega) HOL6.out).mono ?_
          intro r w7 hstep
          obtain ⟨t', rfl, hW7⟩ := WkRel.step hm1 hm4 (.inl rfl) HW6.out.1 HLL.out hstep
          have HW7 := Lib.hid hW7
          clear hW7 hstep
          go_wp2_with fail
          go_roundg (L + 1 - (d + 1))
          case measure => omega
          case rel => exact ⟨d + 1, t', rfl, by omega, rfl, Lib.hid (fun j hj x hx => by
            rcases Nat.lt_succ_iff_lt_or_eq.1 hj with h1 | h1
            · exact HX.out j h1 x hx
            · subst h1
              rw [HLL.out] at hx
              obtain rfl := Option.some.inj hx
              exact HFB.out), HW7⟩
        · have HF := Lib.hid (sfair_at H.out HLL.out HFB.out)
          have HB := Lib.hid (below_step HB2.out HW6.out.1 HB2.out.size)
          go_wp2_with fail
          go_ret
          exact ⟨ret_bool HF.out.symm, HB.out⟩
  · have HN : Hid (sfairB n bs = false) := Lib.hid (by rw [sfairB, h]; rfl)
    go_enter Try.func27, Try.ntmps27
    go_wp2_with fail
    refine (specBidsOk_any _ _ _ _ HV.out).mono ?_
    rintro r w2 ⟨rfl, b2⟩
    rw [h]
    have HB2 := Lib.hid b2
    clear b2
    go_wp2_with fail
    go_ret
    exact ⟨ret_bool HN.out.symm, HB2.out⟩

end Go.Proofs.Ytodmgcbcacblbaa
