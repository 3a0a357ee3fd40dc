/- The walks of the exact laws of chapter 7. Conditions: stated at each. -/
import Derived.Test.YtempdaodmjiloaaVc
import Derived.Test.YtempdaodmjiloaaVd
namespace Go.Proofs.Ytempdaodmjiloaa
open Go.RowKit
set_option linter.unusedVariables false

theorem tabR_len (m : List Int) : (tabR m).length ≤ 16 := by
  unfold tabR
  split
  · next h => rw [tab_len]; exact pow_16 (grs_of h).2
  · simp

theorem measR_len (n : Int) (t : List Int) : (measR n t).length ≤ 4 := by
  unfold measR
  split
  · next h =>
    obtain ⟨m, rfl, -, m4, -⟩ := tok_len ((addB_iff _ _).1 h).1
    rw [meas_len, Int.toNat_natCast]; exact m4
  · simp

theorem betsL_len (n : Int) (t : List Int) : (betsL n t).length ≤ 3 := by
  rcases Bool.eq_false_or_eq_true (agB n t) with h | h
  · exact (bets_bring h).2.2.1
  · rw [bets_no h]; simp

set_option maxHeartbeats 4000000 in
theorem exactTableOk_any (w : World) (n : Int) (vt : Value) (t : List Int) (hvt : IRd w vt t) :
    Calls Try.prog 11 #[.int .i64 n, vt] w fun e w' => e = .returned (.bool true) ∧ Below w.heap.size w w' := by
  obtain ⟨At, ct, rfl, hlt, hmt, -⟩ := id hvt
  have HVt := Lib.hid hvt
  clear hvt
  by_cases hbigt : 1048576 < t.length
  · have hbigt' : (1048576 : Int) < (t.length : Int) := by omega
    go_enter Try.func11, Try.ntmps11
    go_wp2_with fail
    go_ret
    exact ⟨rfl, Below.refl _ _⟩
  have hnt : t.length ≤ 1048576 := by omega
  have hnt' : (t.length : Int) ≤ 1048576 := by omega
  obtain ⟨b, hb⟩ : ∃ b, tokB n t = b := ⟨_, rfl⟩
  go_enter Try.func11, Try.ntmps11
  go_wp2_with fail
  have B0 : Below w.heap.size w w := Below.refl _ _
  have z0 : w.heap.size ≤ w.heap.size := Nat.le_refl _
  go_wp2_with fail
  refine (toIntS_any w _ t (HVt.out.keep (SameAt.of_below B0)) hnt).mono ?_
  rintro e w1 ⟨va, rfl, ova1, b1⟩
  have z1 := b1.size
  have hva : ∀ g, va.ownBlock = some g → g < w1.heap.size := fun g hg => (ova1.ge g hg).2
  have B1 := below_step B0 b1 (by omega)
  clear B0 b1
  go_wp2_with fail
  refine (specTableOk_any w1 n va t (ova1.rd)).mono ?_
  rintro e w' ⟨rfl, rfl⟩
  rw [hb]
  clear ova1 hva
  go_wp2_with fail
  refine (toIntS_any w1 _ t (HVt.out.keep (SameAt.of_below B1)) hnt).mono ?_
  rintro e w2 ⟨vc, rfl, ovc2, b2⟩
  have z2 := b2.size
  have hvc : ∀ g, vc.ownBlock = some g → g < w2.heap.size := fun g hg => (ovc2.ge g hg).2
  have B2 := below_step B1 b2 (by omega)
  clear B1 b2
  go_wp2_with fail
  refine (implTableOk_any w2 n vc t (ovc2.rd)).mono ?_
  rintro e w' ⟨rfl, rfl⟩
  rw [hb]
  cases b
  all_goals
    go_wp2_with fail
    refine (toIntS_any w2 _ t (HVt.out.keep (SameAt.of_below B2)) hnt).mono ?_
    rintro e w3 ⟨ve, rfl, ove3, b3⟩
    have z3 := b3.size
    have hve : ∀ g, ve.ownBlock = some g → g < w3.heap.size := fun g hg => (ove3.ge g hg).2
    have B3 := below_step B2 b3 (by omega)
    have ovc3 := ovc2.keep (SameAt.of_below b3)
    clear B2 b3 ovc2
    go_wp2_with fail
    refine (eqIntS_any w3 vc ve _ _ (ovc3.rd) (ove3.rd)).mono ?_
    rintro e w' ⟨q4, rfl, rfl⟩
    rw [decide_self]
    have z4 : w3.heap.size ≤ (w3.drewN q4).heap.size := Nat.le_refl _
    have B4 : Below w.heap.size w (w3.drewN q4) := below_drewN B3 q4
    have ovc4 : IOwn (w3.drewN q4) _ vc _ := ovc3
    have ove4 : IOwn (w3.drewN q4) _ ve _ := ove3
    clear B3 ovc3 ove3
    generalize w3.drewN q4 = w4 at *
    go_wp2_with fail
    go_ret
    exact ⟨rfl, B4⟩

theorem FnExactTableOk_walk (a0 : Int) (a1 : Option Addr) (len1 cap1 : Nat) (z1 : List Int) (w : World) (w0 : (Lit.int .i64 a0).wf = true) (w1 : IsRowC .i64 w a1 len1 cap1 z1) :
    Calls Try.prog 11 #[.int .i64 a0, .slice a1 len1 cap1] w fun e w' => e = .returned (.bool true) ∧ Below w.heap.size w w' := by
  obtain ⟨xs1, h1⟩ := ird_of_row w1
  exact exactTableOk_any w a0 _ xs1 h1

set_option maxHeartbeats 4000000 in
theorem exactAdditiveOk_any (w : World) (n : Int) (vt : Value) (t : List Int) (hvt : IRd w vt t) :
    Calls Try.prog 14 #[.int .i64 n, vt] w fun e w' => e = .returned (.bool true) ∧ Below w.heap.size w w' := by
  obtain ⟨At, ct, rfl, hlt, hmt, -⟩ := id hvt
  have HVt := Lib.hid hvt
  clear hvt
  by_cases hbigt : 1048576 < t.length
  · have hbigt' : (1048576 : Int) < (t.length : Int) := by omega
    go_enter Try.func14, Try.ntmps14
    go_wp2_with fail
    go_ret
    exact ⟨rfl, Below.refl _ _⟩
  have hnt : t.length ≤ 1048576 := by omega
  have hnt' : (t.length : Int) ≤ 1048576 := by omega
  obtain ⟨b, hb⟩ : ∃ b, addB n t = b := ⟨_, rfl⟩
  go_enter Try.func14, Try.ntmps14
  go_wp2_with fail
  have B0 : Below w.heap.size w w := Below.refl _ _
  have z0 : w.heap.size ≤ w.heap.size := Nat.le_refl _
  go_wp2_with fail
  refine (toIntS_any w _ t (HVt.out.keep (SameAt.of_below B0)) hnt).mono ?_
  rintro e w1 ⟨va, rfl, ova1, b1⟩
  have z1 := b1.size
  have hva : ∀ g, va.ownBlock = some g → g < w1.heap.size := fun g hg => (ova1.ge g hg).2
  have B1 := below_step B0 b1 (by omega)
  clear B0 b1
  go_wp2_with fail
  refine (specAdditiveOk_any w1 n va t (ova1.rd)).mono ?_
  rintro e w2 ⟨rfl, b2⟩
  rw [hb]
  have z2 := b2.size
  have B2 := below_step B1 b2 (by omega)
  have ova2 := ova1.keep (SameAt.of_below b2)
  clear B1 b2 ova1
  clear ova2 hva
  go_wp2_with fail
  refine (toIntS_any w2 _ t (HVt.out.keep (SameAt.of_below B2)) hnt).mono ?_
  rintro e w3 ⟨vc, rfl, ovc3, b3⟩
  have z3 := b3.size
  have hvc : ∀ g, vc.ownBlock = some g → g < w3.heap.size := fun g hg => (ovc3.ge g hg).2
  have B3 := below_step B2 b3 (by omega)
  clear B2 b3
  go_wp2_with fail
  refine (implAdditiveOk_any w3 n vc t (ovc3.rd)).mono ?_
  rintro e w4 ⟨rfl, b4⟩
  rw [hb]
  have z4 := b4.size
  have B4 := below_step B3 b4 (by omega)
  have ovc4 := ovc3.keep (SameAt.of_below b4)
  clear B3 b4 ovc3
  cases b
  all_goals
    go_wp2_with fail
    refine (toIntS_any w4 _ t (HVt.out.keep (SameAt.of_below B4)) hnt).mono ?_
    rintro e w5 ⟨ve, rfl, ove5, b5⟩
    have z5 := b5.size
    have hve : ∀ g, ve.ownBlock = some g → g < w5.heap.size := fun g hg => (ove5.ge g hg).2
    have B5 := below_step B4 b5 (by omega)
    have ovc5 := ovc4.keep (SameAt.of_below b5)
    clear B4 b5 ovc4
    go_wp2_with fail
    refine (eqIntS_any w5 vc ve _ _ (ovc5.rd) (ove5.rd)).mono ?_
    rintro e w' ⟨q6, rfl, rfl⟩
    rw [decide_self]
    have z6 : w5.heap.size ≤ (w5.drewN q6).heap.size := Nat.le_refl _
    have B6 : Below w.heap.size w (w5.drewN q6) := below_drewN B5 q6
    have ovc6 : IOwn (w5.drewN q6) _ vc _ := ovc5
    have ove6 : IOwn (w5.drewN q6) _ ve _ := ove5
    clear B5 ovc5 ove5
    generalize w5.drewN q6 = w6 at *
    go_wp2_with fail
    go_ret
    exact ⟨rfl, B6⟩

theorem FnExactAdditiveOk_walk (a0 : Int) (a1 : Option Addr) (len1 cap1 : Nat) (z1 : List Int) (w : World) (w0 : (Lit.int .i64 a0).wf = true) (w1 : IsRowC .i64 w a1 len1 cap1 z1) :
    Calls Try.prog 14 #[.int .i64 a0, .slice a1 len1 cap1] w fun e w' => e = .returned (.bool true) ∧ Below w.heap.size w w' := by
  obtain ⟨xs1, h1⟩ := ird_of_row w1
  exact exactAdditiveOk_any w a0 _ xs1 h1

set_option maxHeartbeats 4000000 in
theorem exactFirstFault_any (w : World) (n : Int) (vt : Value) (t : List Int) (hvt : IRd w vt t) :
    Calls Try.prog 13 #[.int .i64 n, vt] w fun e w' => e = .returned (.bool true) ∧ Below w.heap.size w w' := by
  obtain ⟨At, ct, rfl, hlt, hmt, -⟩ := id hvt
  have HVt := Lib.hid hvt
  clear hvt
  by_cases hbigt : 1048576 < t.length
  · have hbigt' : (1048576 : Int) < (t.length : Int) := by omega
    go_enter Try.func13, Try.ntmps13
    go_wp2_with fail
    go_ret
    exact ⟨rfl, Below.refl _ _⟩
  have hnt : t.length ≤ 1048576 := by omega
  have hnt' : (t.length : Int) ≤ 1048576 := by omega
  obtain ⟨fa, hfa⟩ : ∃ x, ffA n t = x := ⟨_, rfl⟩
  obtain ⟨fb, hfb⟩ : ∃ x, ffB n t = x := ⟨_, rfl⟩
  obtain ⟨fo, hfo⟩ : ∃ x, ffO n t = x := ⟨_, rfl⟩
  go_enter Try.func13, Try.ntmps13
  go_wp2_with fail
  have B0 : Below w.heap.size w w := Below.refl _ _
  have z0 : w.heap.size ≤ w.heap.size := Nat.le_refl _
  go_wp2_with fail
  refine (toIntS_any w _ t (HVt.out.keep (SameAt.of_below B0)) hnt).mono ?_
  rintro e w1 ⟨va, rfl, ova1, b1⟩
  have z1 := b1.size
  have hva : ∀ g, va.ownBlock = some g → g < w1.heap.size := fun g hg => (ova1.ge g hg).2
  have B1 := below_step B0 b1 (by omega)
  clear B0 b1
  go_wp2_with fail
  refine (specFirstFault_any w1 n va t (ova1.rd)).mono ?_
  rintro e w2 ⟨rfl, b2⟩
  rw [hfa, hfb, hfo]
  have z2 := b2.size
  have B2 := below_step B1 b2 (by omega)
  have ova2 := ova1.keep (SameAt.of_below b2)
  clear B1 b2 ova1
  clear ova2 hva
  go_wp2_with fail
  refine (toIntS_any w2 _ t (HVt.out.keep (SameAt.of_below B2)) hnt).mono ?_
  rintro e w3 ⟨vc, rfl, ovc3, b3⟩
  have z3 := b3.size
  have hvc : ∀ g, vc.ownBlock = some g → g < w3.heap.size := fun g hg => (ovc3.ge g hg).2
  have B3 := below_step B2 b3 (by omega)
  clear B2 b3
  go_wp2_with fail
  refine (implFirstFault_any w3 n vc t (ovc3.rd)).mono ?_
  rintro e w4 ⟨rfl, b4⟩
  rw [hfa, hfb, hfo]
  have z4 := b4.size
  have B4 := below_step B3 b4 (by omega)
  have ovc4 := ovc3.keep (SameAt.of_below b4)
  clear B3 b4 ovc3
  cases fo
  all_goals
    go_wp2_with fail
    refine (toIntS_any w4 _ t (HVt.out.keep (SameAt.of_below B4)) hnt).mono ?_
    rintro e w5 ⟨ve, rfl, ove5, b5⟩
    have z5 := b5.size
    have hve : ∀ g, ve.ownBlock = some g → g < w5.heap.size := fun g hg => (ove5.ge g hg).2
    have B5 := below_step B4 b5 (by omega)
    have ovc5 := ovc4.keep (SameAt.of_below b5)
    clear B4 b5 ovc4
    go_wp2_with fail
    refine (eqIntS_any w5 vc ve _ _ (ovc5.rd) (ove5.rd)).mono ?_
    rintro e w' ⟨q6, rfl, rfl⟩
    rw [decide_self]
    have z6 : w5.heap.size ≤ (w5.drewN q6).heap.size := Nat.le_refl _
    have B6 : Below w.heap.size w (w5.drewN q6) := below_drewN B5 q6
    have ovc6 : IOwn (w5.drewN q6) _ vc _ := ovc5
    have ove6 : IOwn (w5.drewN q6) _ ve _ := ove5
    clear B5 ovc5 ove5
    generalize w5.drewN q6 = w6 at *
    go_wp2_with fail
    go_ret
    exact ⟨rfl, B6⟩

theorem FnExactFirstFault_walk (a0 : Int) (a1 : Option Addr) (len1 cap1 : Nat) (z1 : List Int) (w : World) (w0 : (Lit.int .i64 a0).wf = true) (w1 : IsRowC .i64 w a1 len1 cap1 z1) :
    Calls Try.prog 13 #[.int .i64 a0, .slice a1 len1 cap1] w fun e w' => e = .returned (.bool true) ∧ Below w.heap.size w w' := by
  obtain ⟨xs1, h1⟩ := ird_of_row w1
  exact exactFirstFault_any w a0 _ xs1 h1

set_option maxHeartbeats 4000000 in
theorem exactTableOf_any (w : World) (vm : Value) (m : List Int) (hvm : IRd w vm m) :
    Calls Try.prog 12 #[vm] w fun e w' => e = .returned (.bool true) ∧ Below w.heap.size w w' := by
  obtain ⟨Am, cm, rfl, hlm, hmm, -⟩ := id hvm
  have HVm := Lib.hid hvm
  clear hvm
  by_cases hbigm : 1048576 < m.length
  · have hbigm' : (1048576 : Int) < (m.length : Int) := by omega
    go_enter Try.func12, Try.ntmps12
    go_wp2_with fail
    go_ret
    exact ⟨rfl, Below.refl _ _⟩
  have hnm : m.length ≤ 1048576 := by omega
  have hnm' : (m.length : Int) ≤ 1048576 := by omega
  have hL := tabR_len m
  go_enter Try.func12, Try.ntmps12
  go_wp2_with fail
  have B0 : Below w.heap.size w w := Below.refl _ _
  have z0 : w.heap.size ≤ w.heap.size := Nat.le_refl _
  go_wp2_with fail
  refine (toIntS_any w _ m (HVm.out.keep (SameAt.of_below B0)) hnm).mono ?_
  rintro e w1 ⟨va, rfl, ova1, b1⟩
  have z1 := b1.size
  have hva : ∀ g, va.ownBlock = some g → g < w1.heap.size := fun g hg => (ova1.ge g hg).2
  have B1 := below_step B0 b1 (by omega)
  clear B0 b1
  go_wp2_with fail
  refine (specTableOf_any w1 va m (ova1.rd)).mono ?_
  rintro e w2 ⟨vw, rfl, ovw2, b2⟩
  have z2 := b2.size
  have hvw : ∀ g, vw.ownBlock = some g → g < w2.heap.size := fun g hg => (ovw2.ge g hg).2
  have B2 := below_step B1 b2 (by omega)
  have ova2 := ova1.keep (SameAt.of_below b2)
  clear B1 b2 ova1
  clear ova2 hva
  go_wp2_with fail
  refine (toIntS_any w2 _ m (HVm.out.keep (SameAt.of_below B2)) hnm).mono ?_
  rintro e w3 ⟨vc, rfl, ovc3, b3⟩
  have z3 := b3.size
  have hvc : ∀ g, vc.ownBlock = some g → g < w3.heap.size := fun g hg => (ovc3.ge g hg).2
  have B3 := below_step B2 b3 (by omega)
  have ovw3 := ovw2.keep (SameAt.of_below b3)
  clear B2 b3 ovw2
  go_wp2_with fail
  refine (implTableOf_any w3 vc m (ovc3.rd)).mono ?_
  rintro e w4 ⟨vg, rfl, ovg4, b4⟩
  have z4 := b4.size
  have hvg : ∀ g, vg.ownBlock = some g → g < w4.heap.size := fun g hg => (ovg4.ge g hg).2
  have B4 := below_step B3 b4 (by omega)
  have ovw4 := ovw3.keep (SameAt.of_below b4)
  have ovc4 := ovc3.keep (SameAt.of_below b4)
  clear B3 b4 ovw3 ovc3
  go_wp2_with fail
  refine (eqIntS_any w4 vg vw _ _ (ovg4.rd) (ovw4.rd)).mono ?_
  rintro e w' ⟨q5, rfl, rfl⟩
  rw [decide_self]
  have z5 : w4.heap.size ≤ (w4.drewN q5).heap.size := Nat.le_refl _
  have B5 : Below w.heap.size w (w4.drewN q5) := below_drewN B4 q5
  have ovw5 : IOwn (w4.drewN q5) _ vw _ := ovw4
  have ovc5 : IOwn (w4.drewN q5) _ vc _ := ovc4
  have ovg5 : IOwn (w4.drewN q5) _ vg _ := ovg4
  clear B4 ovw4 ovc4 ovg4
  generalize w4.drewN q5 = w5 at *
  go_wp2_with fail
  refine (toIntS_any w5 _ m (HVm.out.keep (SameAt.of_below B5)) hnm).mono ?_
  rintro e w6 ⟨ve, rfl, ove6, b6⟩
  have z6 := b6.size
  have hve : ∀ g, ve.ownBlock = some g → g < w6.heap.size := fun g hg => (ove6.ge g hg).2
  have B6 := below_step B5 b6 (by omega)
  have ovw6 := ovw5.keep (SameAt.of_below b6)
  have ovc6 := ovc5.keep (SameAt.of_below b6)
  have ovg6 := ovg5.keep (SameAt.of_below b6)
  clear B5 b6 ovw5 ovc5 ovg5
  go_wp2_with fail
  refine (eqIntS_any w6 vc ve _ _ (ovc6.rd) (ove6.rd)).mono ?_
  rintro e w' ⟨q7, rfl, rfl⟩
  rw [decide_self]
  have z7 : w6.heap.size ≤ (w6.drewN q7).heap.size := Nat.le_refl _
  have B7 : Below w.heap.size w (w6.drewN q7) := below_drewN B6 q7
  have ovw7 : IOwn (w6.drewN q7) _ vw _ := ovw6
  have ovc7 : IOwn (w6.drewN q7) _ vc _ := ovc6
  have ovg7 : IOwn (w6.drewN q7) _ vg _ := ovg6
  have ove7 : IOwn (w6.drewN q7) _ ve _ := ove6
  clear B6 ovw6 ovc6 ovg6 ove6
  generalize w6.drewN q7 = w7 at *
  clear ove7 hve
  go_wp2_with fail
  refine (markIntS_any w7 _ (1) vc _ ovc7 hnm (by omega) (by omega)).mono ?_
  rintro e w8 ⟨rfl, ovc8, g8, y8⟩
  have z8 : w7.heap.size ≤ w8.heap.size := by omega
  have ovw8 := ovw7.keep (SameAt.of_grown g8 (own_far ovc7 (fun g hg => by have := hvw g hg; omega)))
  have ovg8 := ovg7.keep (SameAt.of_grown g8 (own_far' ovg7 (fun g hg => by have := hvc g hg; omega)))
  have B8 := below_grown B7 g8 ovc7 (by omega) (by omega)
  clear B7 ovc7 g8 ovw7 ovg7
  clear ovc8 hvc
  go_wp2_with fail
  refine (eqIntS_any w8 vg vw _ _ (ovg8.rd) (ovw8.rd)).mono ?_
  rintro e w' ⟨q9, rfl, rfl⟩
  rw [decide_self]
  have z9 : w8.heap.size ≤ (w8.drewN q9).heap.size := Nat.le_refl _
  have B9 : Below w.heap.size w (w8.drewN q9) := below_drewN B8 q9
  have ovw9 : IOwn (w8.drewN q9) _ vw _ := ovw8
  have ovg9 : IOwn (w8.drewN q9) _ vg _ := ovg8
  clear B8 ovw8 ovg8
  generalize w8.drewN q9 = w9 at *
  go_wp2_with fail
  refine (markIntS_any w9 _ (1) vg _ ovg9 (by omega) (by omega) (by omega)).mono ?_
  rintro e w10 ⟨rfl, ovg10, g10, y10⟩
  have z10 : w9.heap.size ≤ w10.heap.size := by omega
  have ovw10 := ovw9.keep (SameAt.of_grown g10 (own_far ovg9 (fun g hg => by have := hvw g hg; omega)))
  have B10 := below_grown B9 g10 ovg9 (by omega) (by omega)
  clear B9 ovg9 g10 ovw9
  go_wp2_with fail
  refine (heldIntS_any w10 (1) vg _ (ovg10.rd) (by omega) (by omega) (by omega)).mono ?_
  rintro e w' ⟨rfl, rfl⟩
  go_wp2_with fail
  refine (toIntS_any w10 _ m (HVm.out.keep (SameAt.of_below B10)) hnm).mono ?_
  rintro e w11 ⟨vh, rfl, ovh11, b11⟩
  have z11 := b11.size
  have hvh : ∀ g, vh.ownBlock = some g → g < w11.heap.size := fun g hg => (ovh11.ge g hg).2
  have B11 := below_step B10 b11 (by omega)
  have ovw11 := ovw10.keep (SameAt.of_below b11)
  have ovg11 := ovg10.keep (SameAt.of_below b11)
  clear B10 b11 ovw10 ovg10
  go_wp2_with fail
  refine (implTableOf_any w11 vh m (ovh11.rd)).mono ?_
  rintro e w12 ⟨vj, rfl, ovj12, b12⟩
  have z12 := b12.size
  have hvj : ∀ g, vj.ownBlock = some g → g < w12.heap.size := fun g hg => (ovj12.ge g hg).2
  have B12 := below_step B11 b12 (by omega)
  have ovw12 := ovw11.keep (SameAt.of_below b12)
  have ovg12 := ovg11.keep (SameAt.of_below b12)
  have ovh12 := ovh11.keep (SameAt.of_below b12)
  clear B11 b12 ovw11 ovg11 ovh11
  clear ovh12 hvh
  go_wp2_with fail
  refine (eqIntS_any w12 vj vw _ _ (ovj12.rd) (ovw12.rd)).mono ?_
  rintro e w' ⟨q13, rfl, rfl⟩
  rw [decide_self]
  have z13 : w12.heap.size ≤ (w12.drewN q13).heap.size := Nat.le_refl _
  have B13 : Below w.heap.size w (w12.drewN q13) := below_drewN B12 q13
  have ovw13 : IOwn (w12.drewN q13) _ vw _ := ovw12
  have ovg13 : IOwn (w12.drewN q13) _ vg _ := ovg12
  have ovj13 : IOwn (w12.drewN q13) _ vj _ := ovj12
  clear B12 ovw12 ovg12 ovj12
  generalize w12.drewN q13 = w13 at *
  go_wp2_with fail
  refine (heldIntS_any w13 (1) vg _ (ovg13.rd) (by omega) (by omega) (by omega)).mono ?_
  rintro e w' ⟨rfl, rfl⟩
  go_wp2_with fail
  go_ret
  exact ⟨rfl, B13⟩

theorem FnExactTableOf_walk (a0 : Option Addr) (len0 cap0 : Nat) (z0 : List Int) (w : World) (w0 : IsRowC .i64 w a0 len0 cap0 z0) :
    Calls Try.prog 12 #[.slice a0 len0 cap0] w fun e w' => e = .returned (.bool true) ∧ Below w.heap.size w w' := by
  obtain ⟨xs0, h0⟩ := ird_of_row w0
  exact exactTableOf_any w _ xs0 h0

set_option maxHeartbeats 4000000 in
theorem exactMeasureOf_any (w : World) (n : Int) (vt : Value) (t : List Int) (hvt : IRd w vt t) :
    Calls Try.prog 15 #[.int .i64 n, vt] w fun e w' => e = .returned (.bool true) ∧ Below w.heap.size w w' := by
  obtain ⟨At, ct, rfl, hlt, hmt, -⟩ := id hvt
  have HVt := Lib.hid hvt
  clear hvt
  by_cases hbigt : 1048576 < t.length
  · have hbigt' : (1048576 : Int) < (t.length : Int) := by omega
    go_enter Try.func15, Try.ntmps15
    go_wp2_with fail
    go_ret
    exact ⟨rfl, Below.refl _ _⟩
  have hnt : t.length ≤ 1048576 := by omega
  have hnt' : (t.length : Int) ≤ 1048576 := by omega
  have hL := measR_len n t
  obtain ⟨b, hb⟩ : ∃ b, addB n t = b := ⟨_, rfl⟩
  go_enter Try.func15, Try.ntmps15
  go_wp2_with fail
  have B0 : Below w.heap.size w w := Below.refl _ _
  have z0 : w.heap.size ≤ w.heap.size := Nat.le_refl _
  go_wp2_with fail
  refine (toIntS_any w _ t (HVt.out.keep (SameAt.of_below B0)) hnt).mono ?_
  rintro e w1 ⟨va, rfl, ova1, b1⟩
  have z1 := b1.size
  have hva : ∀ g, va.ownBlock = some g → g < w1.heap.size := fun g hg => (ova1.ge g hg).2
  have B1 := below_step B0 b1 (by omega)
  clear B0 b1
  go_wp2_with fail
  refine (specMeasureOf_any w1 n va t (ova1.rd)).mono ?_
  rintro e w2 ⟨vw, rfl, ovw2, b2⟩
  rw [hb]
  have z2 := b2.size
  have hvw : ∀ g, vw.ownBlock = some g → g < w2.heap.size := fun g hg => (ovw2.ge g hg).2
  have B2 := below_step B1 b2 (by omega)
  have ova2 := ova1.keep (SameAt.of_below b2)
  clear B1 b2 ova1
  clear ova2 hva
  go_wp2_with fail
  refine (toIntS_any w2 _ t (HVt.out.keep (SameAt.of_below B2)) hnt).mono ?_
  rintro e w3 ⟨vc, rfl, ovc3, b3⟩
  have z3 := b3.size
  have hvc : ∀ g, vc.ownBlock = some g → g < w3.heap.size := fun g hg => (ovc3.ge g hg).2
  have B3 := below_step B2 b3 (by omega)
  have ovw3 := ovw2.keep (SameAt.of_below b3)
  clear B2 b3 ovw2
  go_wp2_with fail
  refine (implMeasureOf_any w3 n vc t (ovc3.rd)).mono ?_
  rintro e w4 ⟨vg, rfl, ovg4, b4⟩
  rw [hb]
  have z4 := b4.size
  have hvg : ∀ g, vg.ownBlock = some g → g < w4.heap.size := fun g hg => (ovg4.ge g hg).2
  have B4 := below_step B3 b4 (by omega)
  have ovw4 := ovw3.keep (SameAt.of_below b4)
  have ovc4 := ovc3.keep (SameAt.of_below b4)
  clear B3 b4 ovw3 ovc3
  cases b
  all_goals
    go_wp2_with fail
    refine (eqIntS_any w4 vg vw _ _ (ovg4.rd) (ovw4.rd)).mono ?_
    rintro e w' ⟨q5, rfl, rfl⟩
    rw [decide_self]
    have z5 : w4.heap.size ≤ (w4.drewN q5).heap.size := Nat.le_refl _
    have B5 : Below w.heap.size w (w4.drewN q5) := below_drewN B4 q5
    have ovw5 : IOwn (w4.drewN q5) _ vw _ := ovw4
    have ovc5 : IOwn (w4.drewN q5) _ vc _ := ovc4
    have ovg5 : IOwn (w4.drewN q5) _ vg _ := ovg4
    clear B4 ovw4 ovc4 ovg4
    generalize w4.drewN q5 = w5 at *
    go_wp2_with fail
    refine (toIntS_any w5 _ t (HVt.out.keep (SameAt.of_below B5)) hnt).mono ?_
    rintro e w6 ⟨ve, rfl, ove6, b6⟩
    have z6 := b6.size
    have hve : ∀ g, ve.ownBlock = some g → g < w6.heap.size := fun g hg => (ove6.ge g hg).2
    have B6 := below_step B5 b6 (by omega)
    have ovw6 := ovw5.keep (SameAt.of_below b6)
    have ovc6 := ovc5.keep (SameAt.of_below b6)
    have ovg6 := ovg5.keep (SameAt.of_below b6)
    clear B5 b6 ovw5 ovc5 ovg5
    go_wp2_with fail
    refine (eqIntS_any w6 vc ve _ _ (ovc6.rd) (ove6.rd)).mono ?_
    rintro e w' ⟨q7, rfl, rfl⟩
    rw [decide_self]
    have z7 : w6.heap.size ≤ (w6.drewN q7).heap.size := Nat.le_refl _
    have B7 : Below w.heap.size w (w6.drewN q7) := below_drewN B6 q7
    have ovw7 : IOwn (w6.drewN q7) _ vw _ := ovw6
    have ovc7 : IOwn (w6.drewN q7) _ vc _ := ovc6
    have ovg7 : IOwn (w6.drewN q7) _ vg _ := ovg6
    have ove7 : IOwn (w6.drewN q7) _ ve _ := ove6
    clear B6 ovw6 ovc6 ovg6 ove6
    generalize w6.drewN q7 = w7 at *
    clear ove7 hve
    go_wp2_with fail
    refine (markIntS_any w7 _ (1) vc _ ovc7 hnt (by omega) (by omega)).mono ?_
    rintro e w8 ⟨rfl, ovc8, g8, y8⟩
    have z8 : w7.heap.size ≤ w8.heap.size := by omega
    have ovw8 := ovw7.keep (SameAt.of_grown g8 (own_far ovc7 (fun g hg => by have := hvw g hg; omega)))
    have ovg8 := ovg7.keep (SameAt.of_grown g8 (own_far' ovg7 (fun g hg => by have := hvc g hg; omega)))
    have B8 := below_grown B7 g8 ovc7 (by omega) (by omega)
    clear B7 ovc7 g8 ovw7 ovg7
    clear ovc8 hvc
    go_wp2_with fail
    refine (eqIntS_any w8 vg vw _ _ (ovg8.rd) (ovw8.rd)).mono ?_
    rintro e w' ⟨q9, rfl, rfl⟩
    rw [decide_self]
    have z9 : w8.heap.size ≤ (w8.drewN q9).heap.size := Nat.le_refl _
    have B9 : Below w.heap.size w (w8.drewN q9) := below_drewN B8 q9
    have ovw9 : IOwn (w8.drewN q9) _ vw _ := ovw8
    have ovg9 : IOwn (w8.drewN q9) _ vg _ := ovg8
    clear B8 ovw8 ovg8
    generalize w8.drewN q9 = w9 at *
    go_wp2_with fail
    refine (markIntS_any w9 _ (1) vg _ ovg9 (by omega) (by omega) (by omega)).mono ?_
    rintro e w10 ⟨rfl, ovg10, g10, y10⟩
    have z10 : w9.heap.size ≤ w10.heap.size := by omega
    have ovw10 := ovw9.keep (SameAt.of_grown g10 (own_far ovg9 (fun g hg => by have := hvw g hg; omega)))
    have B10 := below_grown B9 g10 ovg9 (by omega) (by omega)
    clear B9 ovg9 g10 ovw9
    go_wp2_with fail
    refine (heldIntS_any w10 (1) vg _ (ovg10.rd) (by omega) (by omega) (by omega)).mono ?_
    rintro e w' ⟨rfl, rfl⟩
    go_wp2_with fail
    refine (toIntS_any w10 _ t (HVt.out.keep (SameAt.of_below B10)) hnt).mono ?_
    rintro e w11 ⟨vh, rfl, ovh11, b11⟩
    have z11 := b11.size
    have hvh : ∀ g, vh.ownBlock = some g → g < w11.heap.size := fun g hg => (ovh11.ge g hg).2
    have B11 := below_step B10 b11 (by omega)
    have ovw11 := ovw10.keep (SameAt.of_below b11)
    have ovg11 := ovg10.keep (SameAt.of_below b11)
    clear B10 b11 ovw10 ovg10
    go_wp2_with fail
    refine (implMeasureOf_any w11 n vh t (ovh11.rd)).mono ?_
    rintro e w12 ⟨vj, rfl, ovj12, b12⟩
    rw [hb]
    have z12 := b12.size
    have hvj : ∀ g, vj.ownBlock = some g → g < w12.heap.size := fun g hg => (ovj12.ge g hg).2
    have B12 := below_step B11 b12 (by omega)
    have ovw12 := ovw11.keep (SameAt.of_below b12)
    have ovg12 := ovg11.keep (SameAt.of_below b12)
    have ovh12 := ovh11.keep (SameAt.of_below b12)
    clear B11 b12 ovw11 ovg11 ovh11
    clear ovh12 hvh
    go_wp2_with fail
    refine (eqIntS_any w12 vj vw _ _ (ovj12.rd) (ovw12.rd)).mono ?_
    rintro e w' ⟨q13, rfl, rfl⟩
    rw [decide_self]
    have z13 : w12.heap.size ≤ (w12.drewN q13).heap.size := Nat.le_refl _
    have B13 : Below w.heap.size w (w12.drewN q13) := below_drewN B12 q13
    have ovw13 : IOwn (w12.drewN q13) _ vw _ := ovw12
    have ovg13 : IOwn (w12.drewN q13) _ vg _ := ovg12
    have ovj13 : IOwn (w12.drewN q13) _ vj _ := ovj12
    clear B12 ovw12 ovg12 ovj12
    generalize w12.drewN q13 = w13 at *
    go_wp2_with fail
    refine (heldIntS_any w13 (1) vg _ (ovg13.rd) (by omega) (by omega) (by omega)).mono ?_
    rintro e w' ⟨rfl, rfl⟩
    go_wp2_with fail
    go_ret
    exact ⟨rfl, B13⟩

theorem FnExactMeasureOf_walk (a0 : Int) (a1 : Option Addr) (len1 cap1 : Nat) (z1 : List Int) (w : World) (w0 : (Lit.int .i64 a0).wf = true) (w1 : IsRowC .i64 w a1 len1 cap1 z1) :
    Calls Try.prog 15 #[.int .i64 a0, .slice a1 len1 cap1] w fun e w' => e = .returned (.bool true) ∧ Below w.heap.size w w' := by
  obtain ⟨xs1, h1⟩ := ird_of_row w1
  exact exactMeasureOf_any w a0 _ xs1 h1

set_option maxHeartbeats 4000000 in
theorem exactBetsAgainst_any (w : World) (n : Int) (vt : Value) (t : List Int) (hvt : IRd w vt t) :
    Calls Try.prog 17 #[.int .i64 n, vt] w fun e w' => e = .returned (.bool true) ∧ Below w.heap.size w w' := by
  obtain ⟨At, ct, rfl, hlt, hmt, -⟩ := id hvt
  have HVt := Lib.hid hvt
  clear hvt
  by_cases hbigt : 1048576 < t.length
  · have hbigt' : (1048576 : Int) < (t.length : Int) := by omega
    go_enter Try.func17, Try.ntmps17
    go_wp2_with fail
    go_ret
    exact ⟨rfl, Below.refl _ _⟩
  have hnt : t.length ≤ 1048576 := by omega
  have hnt' : (t.length : Int) ≤ 1048576 := by omega
  have hL := betsL_len n t
  obtain ⟨b, hb⟩ : ∃ b, agB n t = b := ⟨_, rfl⟩
  go_enter Try.func17, Try.ntmps17
  go_wp2_with fail
  have B0 : Below w.heap.size w w := Below.refl _ _
  have z0 : w.heap.size ≤ w.heap.size := Nat.le_refl _
  go_wp2_with fail
  refine (toIntS_any w _ t (HVt.out.keep (SameAt.of_below B0)) hnt).mono ?_
  rintro e w1 ⟨va, rfl, ova1, b1⟩
  have z1 := b1.size
  have hva : ∀ g, va.ownBlock = some g → g < w1.heap.size := fun g hg => (ova1.ge g hg).2
  have B1 := below_step B0 b1 (by omega)
  clear B0 b1
  go_wp2_with fail
  refine (specBetsAgainst_any w1 n va t (ova1.rd)).mono ?_
  rintro e w2 ⟨vw, rfl, ovw2, b2⟩
  rw [hb]
  have z2 := b2.size
  have hvw : ∀ g, vw.ownBlock = some g → g < w2.heap.size := fun g hg => (ovw2.ge g hg).2
  have B2 := below_step B1 b2 (by omega)
  have ova2 := ova1.keep (SameAt.of_below b2)
  clear B1 b2 ova1
  clear ova2 hva
  go_wp2_with fail
  refine (toIntS_any w2 _ t (HVt.out.keep (SameAt.of_below B2)) hnt).mono ?_
  rintro e w3 ⟨vc, rfl, ovc3, b3⟩
  have z3 := b3.size
  have hvc : ∀ g, vc.ownBlock = some g → g < w3.heap.size := fun g hg => (ovc3.ge g hg).2
  have B3 := below_step B2 b3 (by omega)
  have ovw3 := ovw2.keep (SameAt.of_below b3)
  clear B2 b3 ovw2
  go_wp2_with fail
  refine (implBetsAgainst_any w3 n vc t (ovc3.rd)).mono ?_
  rintro e w4 ⟨vg, rfl, ovg4, b4⟩
  rw [hb]
  have z4 := b4.size
  have hvg : ∀ g, vg.ownBlock = some g → g < w4.heap.size := fun g hg => (ovg4.ge g hg).2
  have B4 := below_step B3 b4 (by omega)
  have ovw4 := ovw3.keep (SameAt.of_below b4)
  have ovc4 := ovc3.keep (SameAt.of_below b4)
  clear B3 b4 ovw3 ovc3
  cases b
  all_goals
    go_wp2_with fail
    refine (eqBetS_any w4 vg vw _ _ (ovg4.rd bC_len) (ovw4.rd bC_len)).mono ?_
    rintro e w5 ⟨rfl, b5⟩
    rw [show ∀ x : List Bt, decide (x = x) = true from fun x => by simp]
    have z5 := b5.size
    have B5 := below_step B4 b5 (by omega)
    have ovw5 := ovw4.keep (SameAt.of_below b5)
    have ovc5 := ovc4.keep (SameAt.of_below b5)
    have ovg5 := ovg4.keep (SameAt.of_below b5)
    clear B4 b5 ovw4 ovc4 ovg4
    go_wp2_with fail
    refine (toIntS_any w5 _ t (HVt.out.keep (SameAt.of_below B5)) hnt).mono ?_
    rintro e w6 ⟨ve, rfl, ove6, b6⟩
    have z6 := b6.size
    have hve : ∀ g, ve.ownBlock = some g → g < w6.heap.size := fun g hg => (ove6.ge g hg).2
    have B6 := below_step B5 b6 (by omega)
    have ovw6 := ovw5.keep (SameAt.of_below b6)
    have ovc6 := ovc5.keep (SameAt.of_below b6)
    have ovg6 := ovg5.keep (SameAt.of_below b6)
    clear B5 b6 ovw5 ovc5 ovg5
    go_wp2_with fail
    refine (eqIntS_any w6 vc ve _ _ (ovc6.rd) (ove6.rd)).mono ?_
    rintro e w' ⟨q7, rfl, rfl⟩
    rw [decide_self]
    have z7 : w6.heap.size ≤ (w6.drewN q7).heap.size := Nat.le_refl _
    have B7 : Below w.heap.size w (w6.drewN q7) := below_drewN B6 q7
    have ovw7 : BOwn (w6.drewN q7) _ vw _ := ovw6
    have ovc7 : IOwn (w6.drewN q7) _ vc _ := ovc6
    have ovg7 : BOwn (w6.drewN q7) _ vg _ := ovg6
    have ove7 : IOwn (w6.drewN q7) _ ve _ := ove6
    clear B6 ovw6 ovc6 ovg6 ove6
    generalize w6.drewN q7 = w7 at *
    clear ove7 hve
    go_wp2_with fail
    refine (markIntS_any w7 _ (1) vc _ ovc7 hnt (by omega) (by omega)).mono ?_
    rintro e w8 ⟨rfl, ovc8, g8, y8⟩
    have z8 : w7.heap.size ≤ w8.heap.size := by omega
    have ovw8 := ovw7.keep (SameAt.of_grown g8 (own_far ovc7 (fun g hg => by have := hvw g hg; omega)))
    have ovg8 := ovg7.keep (SameAt.of_grown g8 (GOwn.far' ovg7 (fun g hg => by have := hvc g hg; omega)))
    have B8 := below_grown B7 g8 ovc7 (by omega) (by omega)
    clear B7 ovc7 g8 ovw7 ovg7
    clear ovc8 hvc
    go_wp2_with fail
    refine (eqBetS_any w8 vg vw _ _ (ovg8.rd bC_len) (ovw8.rd bC_len)).mono ?_
    rintro e w9 ⟨rfl, b9⟩
    rw [show ∀ x : List Bt, decide (x = x) = true from fun x => by simp]
    have z9 := b9.size
    have B9 := below_step B8 b9 (by omega)
    have ovw9 := ovw8.keep (SameAt.of_below b9)
    have ovg9 := ovg8.keep (SameAt.of_below b9)
    clear B8 b9 ovw8 ovg8
    go_wp2_with fail
    refine (markBetS_any w9 _ (1) vg _ ovg9 (by omega) (by omega) (by omega)).mono ?_
    rintro e w10 ⟨rfl, g10, y10, ovg10⟩
    have z10 : w9.heap.size ≤ w10.heap.size := by omega
    have ovw10 := ovw9.keep (SameAt.of_grown g10 (GOwn.far ovg9 (fun g hg => by have := hvw g hg; omega)))
    have B10 := below_grownG B9 g10 ovg9 (by omega) (by omega)
    clear B9 ovg9 g10 ovw9
    go_wp2_with fail
    refine (heldBetS_any w10 (1) vg _ (ovg10.rd bC_len) (by omega) (by omega) (by omega)).mono ?_
    rintro e w' ⟨rfl, rfl⟩
    go_wp2_with fail
    refine (toIntS_any w10 _ t (HVt.out.keep (SameAt.of_below B10)) hnt).mono ?_
    rintro e w11 ⟨vh, rfl, ovh11, b11⟩
    have z11 := b11.size
    have hvh : ∀ g, vh.ownBlock = some g → g < w11.heap.size := fun g hg => (ovh11.ge g hg).2
    have B11 := below_step B10 b11 (by omega)
    have ovw11 := ovw10.keep (SameAt.of_below b11)
    have ovg11 := ovg10.keep (SameAt.of_below b11)
    clear B10 b11 ovw10 ovg10
    go_wp2_with fail
    refine (implBetsAgainst_any w11 n vh t (ovh11.rd)).mono ?_
    rintro e w12 ⟨vj, rfl, ovj12, b12⟩
    rw [hb]
    have z12 := b12.size
    have hvj : ∀ g, vj.ownBlock = some g → g < w12.heap.size := fun g hg => (ovj12.ge g hg).2
    have B12 := below_step B11 b12 (by omega)
    have ovw12 := ovw11.keep (SameAt.of_below b12)
    have ovg12 := ovg11.keep (SameAt.of_below b12)
    have ovh12 := ovh11.keep (SameAt.of_below b12)
    clear B11 b12 ovw11 ovg11 ovh11
    clear ovh12 hvh
    go_wp2_with fail
    refine (eqBetS_any w12 vj vw _ _ (ovj12.rd bC_len) (ovw12.rd bC_len)).mono ?_
    rintro e w13 ⟨rfl, b13⟩
    rw [show ∀ x : List Bt, decide (x = x) = true from fun x => by simp]
    have z13 := b13.size
    have B13 := below_step B12 b13 (by omega)
    have ovw13 := ovw12.keep (SameAt.of_below b13)
    have ovg13 := ovg12.keep (SameAt.of_below b13)
    have ovj13 := ovj12.keep (SameAt.of_below b13)
    clear B12 b13 ovw12 ovg12 ovj12
    go_wp2_with fail
    refine (heldBetS_any w13 (1) vg _ (ovg13.rd bC_len) (by omega) (by omega) (by omega)).mono ?_
    rintro e w' ⟨rfl, rfl⟩
    go_wp2_with fail
    go_ret
    exact ⟨rfl, B13⟩

theorem FnExactBetsAgainst_walk (a0 : Int) (a1 : Option Addr) (len1 cap1 : Nat) (z1 : List Int) (w : World) (w0 : (Lit.int .i64 a0).wf = true) (w1 : IsRowC .i64 w a1 len1 cap1 z1) :
    Calls Try.prog 17 #[.int .i64 a0, .slice a1 len1 cap1] w fun e w' => e = .returned (.bool true) ∧ Below w.heap.size w w' := by
  obtain ⟨xs1, h1⟩ := ird_of_row w1
  exact exactBetsAgainst_any w a0 _ xs1 h1

set_option maxHeartbeats 4000000 in
theorem exactBringsIn_any (w : World) (vbs : Value) (bs : List Bt) (u : Int) (hvbs : BRd w vbs bs) :
    Calls Try.prog 16 #[vbs, .int .i64 u] w fun e w' => e = .returned (.bool true) ∧ Below w.heap.size w w' := by
  obtain ⟨Abs, cbs, rfl, hlbs, hmbs⟩ := hvbs.form
  have HVbs := Lib.hid hvbs
  clear hvbs
  by_cases hbigbs : 1048576 < bs.length
  · go_enter Try.func16, Try.ntmps16
    go_wp2_with fail
    refine (szBetS_big w Abs bs.length cbs hbigbs (by omega)).mono ?_
    rintro e w' ⟨rfl, rfl⟩
    go_wp2_with fail
    go_ret
    exact ⟨rfl, Below.refl _ _⟩
  have hnbs : bs.length ≤ 1048576 := by omega
  have hnbs' : (bs.length : Int) ≤ 1048576 := by omega
  obtain ⟨t, ht⟩ : ∃ t, bsN bs u = t := ⟨_, rfl⟩
  obtain ⟨b, hb⟩ : ∃ b, bsB bs u = b := ⟨_, rfl⟩
  go_enter Try.func16, Try.ntmps16
  go_wp2_with fail
  have B0 : Below w.heap.size w w := Below.refl _ _
  have z0 : w.heap.size ≤ w.heap.size := Nat.le_refl _
  go_wp2_with fail
  refine (szBetS_small w Abs bs.length cbs hnbs).mono ?_
  rintro e w' ⟨rfl, rfl⟩
  go_wp2_with fail
  refine (toBetS_any w _ bs (HVbs.out.keep (SameAt.of_below B0)) hnbs).mono ?_
  rintro e w1 ⟨va, rfl, ova1, b1⟩
  have z1 := b1.size
  have hva : ∀ g, va.ownBlock = some g → g < w1.heap.size := fun g hg => (ova1.ge g hg).2
  have B1 := below_step B0 b1 (by omega)
  clear B0 b1
  go_wp2_with fail
  refine (specBringsIn_any w1 u va bs (ova1.rd bC_len) hnbs).mono ?_
  rintro e w2 ⟨rfl, b2⟩
  rw [ht, hb]
  have z2 := b2.size
  have B2 := below_step B1 b2 (by omega)
  have ova2 := ova1.keep (SameAt.of_below b2)
  clear B1 b2 ova1
  clear ova2 hva
  go_wp2_with fail
  refine (toBetS_any w2 _ bs (HVbs.out.keep (SameAt.of_below B2)) hnbs).mono ?_
  rintro e w3 ⟨vc, rfl, ovc3, b3⟩
  have z3 := b3.size
  have hvc : ∀ g, vc.ownBlock = some g → g < w3.heap.size := fun g hg => (ovc3.ge g hg).2
  have B3 := below_step B2 b3 (by omega)
  clear B2 b3
  go_wp2_with fail
  refine (implBringsIn_any w3 u vc bs (ovc3.rd bC_len) hnbs).mono ?_
  rintro e w4 ⟨rfl, b4⟩
  rw [ht, hb]
  have z4 := b4.size
  have B4 := below_step B3 b4 (by omega)
  have ovc4 := ovc3.keep (SameAt.of_below b4)
  clear B3 b4 ovc3
  cases b
  all_goals
    go_wp2_with fail
    refine (toBetS_any w4 _ bs (HVbs.out.keep (SameAt.of_below B4)) hnbs).mono ?_
    rintro e w5 ⟨ve, rfl, ove5, b5⟩
    have z5 := b5.size
    have hve : ∀ g, ve.ownBlock = some g → g < w5.heap.size := fun g hg => (ove5.ge g hg).2
    have B5 := below_step B4 b5 (by omega)
    have ovc5 := ovc4.keep (SameAt.of_below b5)
    clear B4 b5 ovc4
    go_wp2_with fail
    refine (eqBetS_any w5 vc ve _ _ (ovc5.rd bC_len) (ove5.rd bC_len)).mono ?_
    rintro e w6 ⟨rfl, b6⟩
    rw [show ∀ x : List Bt, decide (x = x) = true from fun x => by simp]
    have z6 := b6.size
    have B6 := below_step B5 b6 (by omega)
    have ovc6 := ovc5.keep (SameAt.of_below b6)
    have ove6 := ove5.keep (SameAt.of_below b6)
    clear B5 b6 ovc5 ove5
    go_wp2_with fail
    go_ret
    exact ⟨rfl, B6⟩

theorem FnExactBringsIn_walk (v0 : Value) (z0 : List Bt) (a1 : Int) (w : World) (w0 : BRd w v0 z0) (w1 : (Lit.int .i64 a1).wf = true) :
    Calls Try.prog 16 #[v0, .int .i64 a1] w fun e w' => e = .returned (.bool true) ∧ Below w.heap.size w w' := by
  exact exactBringsIn_any w v0 z0 a1 w0

end Go.Proofs.Ytempdaodmjiloaa
