/- The walk of the law of LeastBrings. Conditions: rows of bytes that came in. -/
import Derived.Test.YteljcicdibbhdaaTf
namespace Go.Proofs.Yteljcicdibbhdaa
open Go.RowKit
set_option linter.unusedVariables false

theorem lbV_iff (n : Int) (qs : List Qt) (g : List Int) : lbV n qs g = true ↔ bokB n qs = true ∧ gokB g = true ∧ (g.length : Int) = n := by
  rw [lbV, Bool.and_eq_true, Bool.and_eq_true, decide_eq_true_eq]

theorem lb_zero {n : Int} {qs : List Qt} {g : List Int} (h : (lbP n qs g).2 = false) : (lbP n qs g).1 = 0 := by
  rcases Bool.eq_false_or_eq_true (lbV n qs g) with k | k
  · obtain ⟨h1, -, -⟩ := (lbV_iff _ _ _).1 k
    have h3 := ((bokB_iff _ _).1 h1).1
    have w1 : 1 ≤ n := h3.1
    obtain ⟨m, rfl⟩ : ∃ m : Nat, n = m := ⟨n.toNat, by omega⟩
    rw [lb_yes k] at h ⊢
    rw [leastBr_found] at h
    rw [leastBr_none h]
  · rw [lb_no k]

/-- what is told of a gamble that has its length and is one: whether the book is fair -/
theorem lb_told {n : Int} {qs : List Qt} {g : List Int} (hg : gokB g = true) (hl : (g.length : Int) = n) : (lbP n qs g).2 = fairB n qs := by
  rcases Bool.eq_false_or_eq_true (bokB n qs) with h | h
  · have h3 := ((bokB_iff _ _).1 h).1
    have w1 : 1 ≤ n := h3.1
    obtain ⟨m, rfl⟩ : ∃ m : Nat, n = m := ⟨n.toNat, by omega⟩
    rw [lb_yes ((lbV_iff _ _ _).2 ⟨h, hg, hl⟩), leastBr_found, fairB, h, Bool.true_and, Int.toNat_natCast]
  · have hv : lbV n qs g = false := by rw [lbV, h, Bool.false_and]
    rw [lb_no hv, fairB, h, Bool.false_and]

theorem lb_facts {n : Int} {qs : List Qt} {g : List Int} (h : (lbP n qs g).2 = true) :
    gokB g = true ∧ fairB n qs = true ∧ (1 ≤ n ∧ n ≤ 4) ∧ 36 * worstI g ≤ (lbP n qs g).1 ∧ ∀ q ∈ qs, gainR n q 1 = gainL n q 1 ∧ lbP n qs (gainL n q 1) = (0, true) := by
  rcases Bool.eq_false_or_eq_true (lbV n qs g) with k | k
  · obtain ⟨h1, h2, h5⟩ := (lbV_iff _ _ _).1 k
    have hf : fairB n qs = true := by rw [← lb_told h2 h5]; exact h
    obtain ⟨m, rfl, m1, m4, hb, ha⟩ := fair_split hf
    refine ⟨h2, hf, ⟨by omega, by omega⟩, ?_, fun q hq => ?_⟩
    · rw [lb_yes k]
      exact leastBr_worst m1 m4 ha h2 (by omega)
    · have hq1 : qokB (m : Int) q = true := ((bokB_iff _ _).1 hb).2.2 q hq
      have hgb : gainB (m : Int) q 1 = true := by rw [gainB, hq1]; rfl
      have hlen : ((gainL (m : Int) q 1).length : Int) = (m : Int) := by rw [gainL_len, Int.toNat_natCast]
      refine ⟨gainR_yes hgb, ?_⟩
      have t := lb_told (qs := qs) (gain_gok hgb) hlen
      rw [hf] at t
      have z := leastBr_quote m1 m4 ha hq
      rw [← lb_yes ((lbV_iff _ _ _).2 ⟨hb, gain_gok hgb, hlen⟩)] at z
      exact Prod.ext z t
  · rw [lb_no k] at h
    cases h

set_option maxRecDepth 100000 in
set_option maxHeartbeats 8000000 in
theorem FnLeastBrings_walk (a0 : Option Addr) (len0 cap0 : Nat) (z0 : List Int) (w : World) (w0 : IsRowC .u8 w a0 len0 cap0 z0) :
    Calls Try.prog 7 #[.slice a0 len0 cap0] w fun e w' => e = .returned (.bool true) ∧ Below w.heap.size w w' := by
  by_cases hlen : 1048576 < len0
  · clear w0
    go_enter Try.func7, Try.ntmps7
    go_wp2
    go_ret
    exact ⟨rfl, Below.refl _ _⟩
  · have hlen' : decide (1048576 < len0) = false := by simpa using hlen
    go_enter Try.func7, Try.ntmps7
    go_wp2_with fail
    refine (drawLeastBrings_any _ _ _ _ _ w0).mono ?_
    rintro e w1 ⟨n, vb, qs, vg, g, rfl, ovb1, ovg1, hl4, hg8, B1⟩
    clear hlen hlen' w0
    have z1 := B1.size
    have hvb : ∀ g, vb.ownBlock = some g → g < w1.heap.size := fun g hg => (ovb1.ge g hg).2
    have hvg : ∀ g, vg.ownBlock = some g → g < w1.heap.size := fun g hg => (ovg1.ge g hg).2
    obtain ⟨A, c, rfl, hlc, hmx⟩ := (ovb1.rd qC_len).form
    obtain ⟨x, hx⟩ : ∃ x, (lbP n qs g).1 = x := ⟨_, rfl⟩
    rcases Bool.eq_false_or_eq_true (lbP n qs g).2 with hb | hb
    · obtain ⟨f1, f2, ⟨f3, f4⟩, f5, f6⟩ := lb_facts hb
      obtain ⟨t, ht⟩ : ∃ t, worstI g = t := ⟨_, rfl⟩
      obtain ⟨q1, q2⟩ := worst_bounds f1
      rw [ht] at f5 q1 q2
      rw [hx] at f5
      have HX := Lib.hid hx
      have HB := Lib.hid hb
      have HG := Lib.hid f1
      have HF := Lib.hid f2
      have HT := Lib.hid ht
      have HQ := Lib.hid f6
      clear hx hb f1 f2 ht f6
      go_wp2_with fail
      refine (implLeastBrings_any w1 n _ vg qs g (ovb1.rd qC_len) (ovg1.rd)).mono ?_
      rintro e w2 ⟨rfl, b2⟩
      rw [HX.out, HB.out]
      have z2 := b2.size
      have B2 := below_step B1 b2 (by omega)
      have ovb2 := ovb1.keep (SameAt.of_below b2)
      have ovg2 := ovg1.keep (SameAt.of_below b2)
      clear B1 b2 ovb1 ovg1
      go_wp2_with fail
      refine (specLeastBrings_any w2 n _ vg qs g (ovb2.rd qC_len) (ovg2.rd)).mono ?_
      rintro e w3 ⟨rfl, b3⟩
      rw [HX.out, HB.out]
      have z3 := b3.size
      have B3 := below_step B2 b3 (by omega)
      have ovb3 := ovb2.keep (SameAt.of_below b3)
      have ovg3 := ovg2.keep (SameAt.of_below b3)
      clear B2 b3 ovb2 ovg2
      go_wp2_with fail
      refine (implWorstOf_any w3 vg g (ovg3.rd)).mono ?_
      rintro e w' ⟨rfl, rfl⟩
      rw [HT.out, HG.out]
      have HVB := Lib.hid ovb3
      have HBJ := Lib.hid B3
      have HZJ : Hid (w.heap.size ≤ w3.heap.size) := Lib.hid B3.size
      clear ovb3 ovg3 B3
      go_wp2_with fail
      go_loopw [12] (fun i wr => ∃ k : Nat, i = .int .i64 (k : Int) ∧ k ≤ qs.length ∧ Hid (Below w3.heap.size w3 wr)) (fun i _ => qs.length - (intOf i).toNat)
      case atStart => exact ⟨0, rfl, Nat.zero_le _, Lib.hid (Below.refl _ _)⟩
      case round =>
        obtain ⟨k, rfl, hk, HW⟩ := hrel
        by_cases hlt : k < qs.length
        · obtain ⟨b, off, ⟨e, p⟩, rfl, -, hx, hc0, hc1⟩ := QRd.at_ (GOwn.rd qC_len (HVB.out.keep (SameAt.of_below HW.out))) hlt
          obtain ⟨k1, k2⟩ := HQ.out (e, p) (List.mem_of_getElem? hx)
          have HK1 := Lib.hid k1
          have HK2 := Lib.hid k2
          clear hx k1 k2
          go_wp2_with fail
          refine (implGainOf_any n (e, p) 1 wr).mono ?_
          rintro r wa ⟨vr, rfl, og, ba⟩
          rw [HK1.out] at og
          have HOG := Lib.hid og
          have HA := Lib.hid (below_step HW.out ba HW.out.size)
          clear og ba hc0 hc1
          go_wp2_with fail
          refine (implLeastBrings_any wa n _ vr qs (gainL n (e, p) 1) (GOwn.rd qC_len (HVB.out.keep (SameAt.of_below HA.out))) HOG.out.rd).mono ?_
          rintro r wb ⟨rfl, bb⟩
          rw [HK2.out]
          have HBB := Lib.hid (below_step HA.out bb HA.out.size)
          clear bb HOG
          go_wp2_with fail
          go_roundw
          case rel => exact ⟨k + 1, by go_num, by omega, HBB⟩
          case measure => simp [intOf]; omega
        · go_wp2_with fail
          refine (implFairOk_any wr n _ qs (GOwn.rd qC_len (HVB.out.keep (SameAt.of_below HW.out)))).mono ?_
          rintro r wb ⟨rfl, bb⟩
          rw [HF.out]
          have HBB := Lib.hid (below_step HBJ.out (below_step HW.out bb HW.out.size) HZJ.out)
          clear bb
          go_wp2_with fail
          go_ret
          exact ⟨rfl, HBB.out⟩
    · have h0 := lb_zero hb
      rw [hx] at h0
      subst h0
      have HX := Lib.hid hx
      have HB := Lib.hid hb
      clear hx hb
      go_wp2_with fail
      refine (implLeastBrings_any w1 n _ vg qs g (ovb1.rd qC_len) (ovg1.rd)).mono ?_
      rintro e w2 ⟨rfl, b2⟩
      rw [HX.out, HB.out]
      have z2 := b2.size
      have B2 := below_step B1 b2 (by omega)
      have ovb2 := ovb1.keep (SameAt.of_below b2)
      have ovg2 := ovg1.keep (SameAt.of_below b2)
      clear B1 b2 ovb1 ovg1
      go_wp2_with fail
      refine (specLeastBrings_any w2 n _ vg qs g (ovb2.rd qC_len) (ovg2.rd)).mono ?_
      rintro e w3 ⟨rfl, b3⟩
      rw [HX.out, HB.out]
      have z3 := b3.size
      have B3 := below_step B2 b3 (by omega)
      have ovb3 := ovb2.keep (SameAt.of_below b3)
      have ovg3 := ovg2.keep (SameAt.of_below b3)
      clear B2 b3 ovb2 ovg2
      go_wp2_with fail
      refine (alive_any _).mono ?_
      rintro e w' ⟨rfl, rfl⟩
      go_wp2_with fail
      go_ret
      exact ⟨rfl, B3⟩

end Go.Proofs.Yteljcicdibbhdaa
