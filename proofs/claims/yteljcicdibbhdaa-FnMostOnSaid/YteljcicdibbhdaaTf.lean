/- The walks of the laws of LeastOn, MostOn. Conditions: rows of bytes that came in. -/
import Derived.Test.YteljcicdibbhdaaTn
import Derived.Test.YteljcicdibbhdaaRh
namespace Go.Proofs.Yteljcicdibbhdaa
open Go.RowKit
set_option linter.unusedVariables false

theorem evB_notI {w e : Int} (h : evB w e = true) : evB w (notI w e) = true := by
  have h1 := (evB_iff _ _).1 h
  rw [notI, if_pos h, evB_iff]
  omega

theorem evB_allI {w : Int} (h1 : 1 ≤ w) (h4 : w ≤ 4) : evB w (allI w) = true := by
  rw [evB_iff]
  obtain rfl | rfl | rfl | rfl := wcases h1 h4
  all_goals decide

theorem fair_split {n : Int} {qs : List Qt} (h : fairB n qs = true) : ∃ m : Nat, n = m ∧ 1 ≤ m ∧ m ≤ 4 ∧ bokB (m : Int) qs = true ∧ anyFit m qs = true := by
  rw [fairB, Bool.and_eq_true] at h
  obtain ⟨h1, h2⟩ := h
  have h3 := ((bokB_iff _ _).1 h1).1
  have w1 : 1 ≤ n := h3.1
  have w4 : n ≤ 4 := h3.2
  obtain ⟨m, rfl⟩ : ∃ m : Nat, n = m := ⟨n.toNat, by omega⟩
  rw [Int.toNat_natCast] at h2
  exact ⟨m, rfl, by omega, by omega, h1, h2⟩

theorem unfair_any {n : Nat} {qs : List Qt} (h : fairB (n : Int) qs = false) (hb : bokB (n : Int) qs = true) : anyFit n qs = false := by
  rw [fairB, hb, Bool.true_and, Int.toNat_natCast] at h
  exact h

theorem least_unfair {n : Int} {qs : List Qt} {e : Int} (hf : fairB n qs = false) : leastB n qs e = -1 ∧ mostB n qs e = -1 := by
  by_cases h : bokB n qs = true ∧ evB n e = true
  · have h3 := ((bokB_iff _ _).1 h.1).1
    have w1 : 1 ≤ n := h3.1
    obtain ⟨m, rfl⟩ : ∃ m : Nat, n = m := ⟨n.toNat, by omega⟩
    rw [leastB_yes h.1 h.2, mostB_yes h.1 h.2]
    exact ⟨least_none (unfair_any hf h.1) e, most_none (unfair_any hf h.1) e⟩
  · exact ⟨leastB_no h, mostB_no h⟩

theorem least_facts {n : Int} {qs : List Qt} {e : Int} (he : evB n e = true) (hf : fairB n qs = true) :
    0 ≤ leastB n qs e ∧ 0 ≤ mostB n qs (notI n e) ∧ leastB n qs e + mostB n qs (notI n e) = 36 ∧ leastB n qs (allI n) = 36 := by
  obtain ⟨m, rfl, m1, m4, hb, ha⟩ := fair_split hf
  rw [leastB_yes hb he, mostB_yes hb (evB_notI he), leastB_yes hb (evB_allI (by omega) (by omega))]
  refine ⟨(least_some ha e).2.2, ?_, least_most m1 ha he, ?_⟩
  · obtain ⟨⟨l, -, h2⟩, -⟩ := most_some ha (notI (m : Int) e)
    rw [h2]
    exact on_nonneg l _
  · have := least_all m1 ha
    rw [allI, Int.toNat_natCast]
    exact this

set_option maxRecDepth 100000 in
set_option maxHeartbeats 8000000 in
theorem FnLeastOn_walk (a0 : Option Addr) (len0 cap0 : Nat) (z0 : List Int) (w : World) (w0 : IsRowC .u8 w a0 len0 cap0 z0) :
    Calls Try.prog 3 #[.slice a0 len0 cap0] w fun e w' => e = .returned (.bool true) ∧ Below w.heap.size w w' := by
  by_cases hlen : 1048576 < len0
  · clear w0
    go_enter Try.func3, Try.ntmps3
    go_wp2
    go_ret
    exact ⟨rfl, Below.refl _ _⟩
  · have hlen' : decide (1048576 < len0) = false := by simpa using hlen
    go_enter Try.func3, Try.ntmps3
    go_wp2_with fail
    refine (drawLeastOn_any _ _ _ _ _ w0).mono ?_
    rintro e w1 ⟨n, vb, qs, y, rfl, ovb1, hl4, B1⟩
    clear hlen hlen' w0
    have z1 := B1.size
    have hvb : ∀ g, vb.ownBlock = some g → g < w1.heap.size := fun g hg => (ovb1.ge g hg).2
    rcases Bool.eq_false_or_eq_true (evB n y) with k | k
    · rcases Bool.eq_false_or_eq_true (bokB n qs) with h | h
      · rcases Bool.eq_false_or_eq_true (fairB n qs) with f | f
        · have hw1 : 1 ≤ n := ((bokB_iff _ _).1 h).1.1
          have hw2 : n ≤ 4 := ((bokB_iff _ _).1 h).1.2
          obtain ⟨q1, q2, q3, q4⟩ := least_facts k f
          obtain ⟨t, ht⟩ : ∃ t, leastB n qs y = t := ⟨_, rfl⟩
          obtain ⟨u, hu⟩ : ∃ u, mostB n qs (notI n y) = u := ⟨_, rfl⟩
          rw [ht] at q1 q3
          rw [hu] at q2 q3
          have HK := Lib.hid k
          have H := Lib.hid h
          have HF := Lib.hid f
          have HT := Lib.hid ht
          have HU := Lib.hid hu
          have HA := Lib.hid q4
          clear k h f ht hu q4
          obtain rfl | rfl | rfl | rfl := wcases hw1 hw2
          · have HA2 : Hid (leastB 1 qs 1 = 36) := Lib.hid (by have h := HA.out; rwa [show allI 1 = 1 from by decide] at h)
            have hw1 : IntKind.i64.wrap 2 = 2 := by decide
            have hw2 : IntKind.i64.wrap 1 = 1 := by decide
            go_wp2_with fail
            refine (implLeastOn_any w1 1 vb qs y (ovb1.rd qC_len)).mono ?_
            rintro e w2 ⟨rfl, b2⟩
            rw [HT.out]
            have z2 := b2.size
            have B2 := below_step B1 b2 (by omega)
            have ovb2 := ovb1.keep (SameAt.of_below b2)
            clear B1 b2 ovb1
            go_wp2_with fail
            refine (specLeastOn_any w2 1 vb qs y (ovb2.rd qC_len)).mono ?_
            rintro e w3 ⟨rfl, b3⟩
            rw [HT.out]
            have z3 := b3.size
            have B3 := below_step B2 b3 (by omega)
            have ovb3 := ovb2.keep (SameAt.of_below b3)
            clear B2 b3 ovb2
            go_wp2_with fail
            refine (specEventOk_any _ _ _).mono ?_
            rintro e w' ⟨rfl, rfl⟩
            rw [HK.out]
            go_wp2_with fail
            refine (specBookOk_any w3 1 vb qs (ovb3.rd qC_len)).mono ?_
            rintro e w4 ⟨rfl, b4⟩
            rw [H.out]
            have z4 := b4.size
            have B4 := below_step B3 b4 (by omega)
            have ovb4 := ovb3.keep (SameAt.of_below b4)
            clear B3 b4 ovb3
            go_wp2_with fail
            refine (implFairOk_any w4 1 vb qs (ovb4.rd qC_len)).mono ?_
            rintro e w5 ⟨rfl, b5⟩
            rw [HF.out]
            have z5 := b5.size
            have B5 := below_step B4 b5 (by omega)
            have ovb5 := ovb4.keep (SameAt.of_below b5)
            clear B4 b5 ovb4
            go_wp2_with fail
            refine (implNotEvent_any _ _ _).mono ?_
            rintro e w' ⟨rfl, rfl⟩
            go_wp2_with fail
            refine (implMostOn_any w5 1 vb qs _ (ovb5.rd qC_len)).mono ?_
            rintro e w6 ⟨rfl, b6⟩
            rw [HU.out]
            have z6 := b6.size
            have B6 := below_step B5 b6 (by omega)
            have ovb6 := ovb5.keep (SameAt.of_below b6)
            clear B5 b6 ovb5
            go_wp2_with fail
            refine (implLeastOn_any w6 1 vb qs _ (ovb6.rd qC_len)).mono ?_
            rintro e w7 ⟨rfl, b7⟩
            rw [HA2.out]
            have z7 := b7.size
            have B7 := below_step B6 b7 (by omega)
            have ovb7 := ovb6.keep (SameAt.of_below b7)
            clear B6 b7 ovb6
            go_wp2_with fail
            go_ret
            exact ⟨rfl, B7⟩
          · have HA2 : Hid (leastB 2 qs 3 = 36) := Lib.hid (by have h := HA.out; rwa [show allI 2 = 3 from by decide] at h)
            have hw1 : IntKind.i64.wrap 4 = 4 := by decide
            have hw2 : IntKind.i64.wrap 3 = 3 := by decide
            go_wp2_with fail
            refine (implLeastOn_any w1 2 vb qs y (ovb1.rd qC_len)).mono ?_
            rintro e w2 ⟨rfl, b2⟩
            rw [HT.out]
            have z2 := b2.size
            have B2 := below_step B1 b2 (by omega)
            have ovb2 := ovb1.keep (SameAt.of_below b2)
            clear B1 b2 ovb1
            go_wp2_with fail
            refine (specLeastOn_any w2 2 vb qs y (ovb2.rd qC_len)).mono ?_
            rintro e w3 ⟨rfl, b3⟩
            rw [HT.out]
            have z3 := b3.size
            have B3 := below_step B2 b3 (by omega)
            have ovb3 := ovb2.keep (SameAt.of_below b3)
            clear B2 b3 ovb2
            go_wp2_with fail
            refine (specEventOk_any _ _ _).mono ?_
            rintro e w' ⟨rfl, rfl⟩
            rw [HK.out]
            go_wp2_with fail
            refine (specBookOk_any w3 2 vb qs (ovb3.rd qC_len)).mono ?_
            rintro e w4 ⟨rfl, b4⟩
            rw [H.out]
            have z4 := b4.size
            have B4 := below_step B3 b4 (by omega)
            have ovb4 := ovb3.keep (SameAt.of_below b4)
            clear B3 b4 ovb3
            go_wp2_with fail
            refine (implFairOk_any w4 2 vb qs (ovb4.rd qC_len)).mono ?_
            rintro e w5 ⟨rfl, b5⟩
            rw [HF.out]
            have z5 := b5.size
            have B5 := below_step B4 b5 (by omega)
            have ovb5 := ovb4.keep (SameAt.of_below b5)
            clear B4 b5 ovb4
            go_wp2_with fail
            refine (implNotEvent_any _ _ _).mono ?_
            rintro e w' ⟨rfl, rfl⟩
            go_wp2_with fail
            refine (implMostOn_any w5 2 vb qs _ (ovb5.rd qC_len)).mono ?_
            rintro e w6 ⟨rfl, b6⟩
            rw [HU.out]
            have z6 := b6.size
            have B6 := below_step B5 b6 (by omega)
            have ovb6 := ovb5.keep (SameAt.of_below b6)
            clear B5 b6 ovb5
            go_wp2_with fail
            refine (implLeastOn_any w6 2 vb qs _ (ovb6.rd qC_len)).mono ?_
            rintro e w7 ⟨rfl, b7⟩
            rw [HA2.out]
            have z7 := b7.size
            have B7 := below_step B6 b7 (by omega)
            have ovb7 := ovb6.keep (SameAt.of_below b7)
            clear B6 b7 ovb6
            go_wp2_with fail
            go_ret
            exact ⟨rfl, B7⟩
          · have HA2 : Hid (leastB 3 qs 7 = 36) := Lib.hid (by have h := HA.out; rwa [show allI 3 = 7 from by decide] at h)
            have hw1 : IntKind.i64.wrap 8 = 8 := by decide
            have hw2 : IntKind.i64.wrap 7 = 7 := by decide
            go_wp2_with fail
            refine (implLeastOn_any w1 3 vb qs y (ovb1.rd qC_len)).mono ?_
            rintro e w2 ⟨rfl, b2⟩
            rw [HT.out]
            have z2 := b2.size
            have B2 := below_step B1 b2 (by omega)
            have ovb2 := ovb1.keep (SameAt.of_below b2)
            clear B1 b2 ovb1
            go_wp2_with fail
            refine (specLeastOn_any w2 3 vb qs y (ovb2.rd qC_len)).mono ?_
            rintro e w3 ⟨rfl, b3⟩
            rw [HT.out]
            have z3 := b3.size
            have B3 := below_step B2 b3 (by omega)
            have ovb3 := ovb2.keep (SameAt.of_below b3)
            clear B2 b3 ovb2
            go_wp2_with fail
            refine (specEventOk_any _ _ _).mono ?_
            rintro e w' ⟨rfl, rfl⟩
            rw [HK.out]
            go_wp2_with fail
            refine (specBookOk_any w3 3 vb qs (ovb3.rd qC_len)).mono ?_
            rintro e w4 ⟨rfl, b4⟩
            rw [H.out]
            have z4 := b4.size
            have B4 := below_step B3 b4 (by omega)
            have ovb4 := ovb3.keep (SameAt.of_below b4)
            clear B3 b4 ovb3
            go_wp2_with fail
            refine (implFairOk_any w4 3 vb qs (ovb4.rd qC_len)).mono ?_
            rintro e w5 ⟨rfl, b5⟩
            rw [HF.out]
            have z5 := b5.size
            have B5 := below_step B4 b5 (by omega)
            have ovb5 := ovb4.keep (SameAt.of_below b5)
            clear B4 b5 ovb4
            go_wp2_with fail
            refine (implNotEvent_any _ _ _).mono ?_
            rintro e w' ⟨rfl, rfl⟩
            go_wp2_with fail
            refine (implMostOn_any w5 3 vb qs _ (ovb5.rd qC_len)).mono ?_
            rintro e w6 ⟨rfl, b6⟩
            rw [HU.out]
            have z6 := b6.size
            have B6 := below_step B5 b6 (by omega)
            have ovb6 := ovb5.keep (SameAt.of_below b6)
            clear B5 b6 ovb5
            go_wp2_with fail
            refine (implLeastOn_any w6 3 vb qs _ (ovb6.rd qC_len)).mono ?_
            rintro e w7 ⟨rfl, b7⟩
            rw [HA2.out]
            have z7 := b7.size
            have B7 := below_step B6 b7 (by omega)
            have ovb7 := ovb6.keep (SameAt.of_below b7)
            clear B6 b7 ovb6
            go_wp2_with fail
            go_ret
            exact ⟨rfl, B7⟩
          · have HA2 : Hid (leastB 4 qs 15 = 36) := Lib.hid (by have h := HA.out; rwa [show allI 4 = 15 from by decide] at h)
            have hw1 : IntKind.i64.wrap 16 = 16 := by decide
            have hw2 : IntKind.i64.wrap 15 = 15 := by decide
            go_wp2_with fail
            refine (implLeastOn_any w1 4 vb qs y (ovb1.rd qC_len)).mono ?_
            rintro e w2 ⟨rfl, b2⟩
            rw [HT.out]
            have z2 := b2.size
            have B2 := below_step B1 b2 (by omega)
            have ovb2 := ovb1.keep (SameAt.of_below b2)
            clear B1 b2 ovb1
            go_wp2_with fail
            refine (specLeastOn_any w2 4 vb qs y (ovb2.rd qC_len)).mono ?_
            rintro e w3 ⟨rfl, b3⟩
            rw [HT.out]
            have z3 := b3.size
            have B3 := below_step B2 b3 (by omega)
            have ovb3 := ovb2.keep (SameAt.of_below b3)
            clear B2 b3 ovb2
            go_wp2_with fail
            refine (specEventOk_any _ _ _).mono ?_
            rintro e w' ⟨rfl, rfl⟩
            rw [HK.out]
            go_wp2_with fail
            refine (specBookOk_any w3 4 vb qs (ovb3.rd qC_len)).mono ?_
            rintro e w4 ⟨rfl, b4⟩
            rw [H.out]
            have z4 := b4.size
            have B4 := below_step B3 b4 (by omega)
            have ovb4 := ovb3.keep (SameAt.of_below b4)
            clear B3 b4 ovb3
            go_wp2_with fail
            refine (implFairOk_any w4 4 vb qs (ovb4.rd qC_len)).mono ?_
            rintro e w5 ⟨rfl, b5⟩
            rw [HF.out]
            have z5 := b5.size
            have B5 := below_step B4 b5 (by omega)
            have ovb5 := ovb4.keep (SameAt.of_below b5)
            clear B4 b5 ovb4
            go_wp2_with fail
            refine (implNotEvent_any _ _ _).mono ?_
            rintro e w' ⟨rfl, rfl⟩
            go_wp2_with fail
            refine (implMostOn_any w5 4 vb qs _ (ovb5.rd qC_len)).mono ?_
            rintro e w6 ⟨rfl, b6⟩
            rw [HU.out]
            have z6 := b6.size
            have B6 := below_step B5 b6 (by omega)
            have ovb6 := ovb5.keep (SameAt.of_below b6)
            clear B5 b6 ovb5
            go_wp2_with fail
            refine (implLeastOn_any w6 4 vb qs _ (ovb6.rd qC_len)).mono ?_
            rintro e w7 ⟨rfl, b7⟩
            rw [HA2.out]
            have z7 := b7.size
            have B7 := below_step B6 b7 (by omega)
            have ovb7 := ovb6.keep (SameAt.of_below b7)
            clear B6 b7 ovb6
            go_wp2_with fail
            go_ret
            exact ⟨rfl, B7⟩
        · have HT := Lib.hid (least_unfair (e := y) f).1
          have HK := Lib.hid k
          have H := Lib.hid h
          have HF := Lib.hid f
          clear k h f
          go_wp2_with fail
          refine (implLeastOn_any w1 n vb qs y (ovb1.rd qC_len)).mono ?_
          rintro e w2 ⟨rfl, b2⟩
          rw [HT.out]
          have z2 := b2.size
          have B2 := below_step B1 b2 (by omega)
          have ovb2 := ovb1.keep (SameAt.of_below b2)
          clear B1 b2 ovb1
          go_wp2_with fail
          refine (specLeastOn_any w2 n vb qs y (ovb2.rd qC_len)).mono ?_
          rintro e w3 ⟨rfl, b3⟩
          rw [HT.out]
          have z3 := b3.size
          have B3 := below_step B2 b3 (by omega)
          have ovb3 := ovb2.keep (SameAt.of_below b3)
          clear B2 b3 ovb2
          go_wp2_with fail
          refine (specEventOk_any _ _ _).mono ?_
          rintro e w' ⟨rfl, rfl⟩
          rw [HK.out]
          go_wp2_with fail
          refine (specBookOk_any w3 n vb qs (ovb3.rd qC_len)).mono ?_
          rintro e w4 ⟨rfl, b4⟩
          rw [H.out]
          have z4 := b4.size
          have B4 := below_step B3 b4 (by omega)
          have ovb4 := ovb3.keep (SameAt.of_below b4)
          clear B3 b4 ovb3
          go_wp2_with fail
          refine (implFairOk_any w4 n vb qs (ovb4.rd qC_len)).mono ?_
          rintro e w5 ⟨rfl, b5⟩
          rw [HF.out]
          have z5 := b5.size
          have B5 := below_step B4 b5 (by omega)
          have ovb5 := ovb4.keep (SameAt.of_below b5)
          clear B4 b5 ovb4
          go_wp2_with fail
          go_ret
          exact ⟨rfl, B5⟩
      · have HT := Lib.hid (leastB_no (n := n) (qs := qs) (e := y) (by rw [h]; simp))
        have HK := Lib.hid k
        have H := Lib.hid h
        clear k h
        go_wp2_with fail
        refine (implLeastOn_any w1 n vb qs y (ovb1.rd qC_len)).mono ?_
        rintro e w2 ⟨rfl, b2⟩
        rw [HT.out]
        have z2 := b2.size
        have B2 := below_step B1 b2 (by omega)
        have ovb2 := ovb1.keep (SameAt.of_below b2)
        clear B1 b2 ovb1
        go_wp2_with fail
        refine (specLeastOn_any w2 n vb qs y (ovb2.rd qC_len)).mono ?_
        rintro e w3 ⟨rfl, b3⟩
        rw [HT.out]
        have z3 := b3.size
        have B3 := below_step B2 b3 (by omega)
        have ovb3 := ovb2.keep (SameAt.of_below b3)
        clear B2 b3 ovb2
        go_wp2_with fail
        refine (specEventOk_any _ _ _).mono ?_
        rintro e w' ⟨rfl, rfl⟩
        rw [HK.out]
        go_wp2_with fail
        refine (specBookOk_any w3 n vb qs (ovb3.rd qC_len)).mono ?_
        rintro e w4 ⟨rfl, b4⟩
        rw [H.out]
        have z4 := b4.size
        have B4 := below_step B3 b4 (by omega)
        have ovb4 := ovb3.keep (SameAt.of_below b4)
        clear B3 b4 ovb3
        go_wp2_with fail
        refine (alive_any _).mono ?_
        rintro e w' ⟨rfl, rfl⟩
        go_wp2_with fail
        go_ret
        exact ⟨rfl, B4⟩
    · have HT := Lib.hid (leastB_no (n := n) (qs := qs) (e := y) (by rw [k]; simp))
      have HK := Lib.hid k
      clear k
      go_wp2_with fail
      refine (implLeastOn_any w1 n vb qs y (ovb1.rd qC_len)).mono ?_
      rintro e w2 ⟨rfl, b2⟩
      rw [HT.out]
      have z2 := b2.size
      have B2 := below_step B1 b2 (by omega)
      have ovb2 := ovb1.keep (SameAt.of_below b2)
      clear B1 b2 ovb1
      go_wp2_with fail
      refine (specLeastOn_any w2 n vb qs y (ovb2.rd qC_len)).mono ?_
      rintro e w3 ⟨rfl, b3⟩
      rw [HT.out]
      have z3 := b3.size
      have B3 := below_step B2 b3 (by omega)
      have ovb3 := ovb2.keep (SameAt.of_below b3)
      clear B2 b3 ovb2
      go_wp2_with fail
      refine (specEventOk_any _ _ _).mono ?_
      rintro e w' ⟨rfl, rfl⟩
      rw [HK.out]
      go_wp2_with fail
      refine (alive_any _).mono ?_
      rintro e w' ⟨rfl, rfl⟩
      go_wp2_with fail
      go_ret
      exact ⟨rfl, B3⟩

end Go.Proofs.Yteljcicdibbhdaa
