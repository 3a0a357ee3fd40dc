/- The walks of the exact laws of chapter 8. Conditions: stated at each. -/
import Derived.Test.YtghmgnhiglmifaaWp
namespace Go.Proofs.Ytghmgnhiglmifaa
open Go.RowKit
set_option linter.unusedVariables false

theorem calR_len (n a b p : Int) : (calR n a b p).length ≤ 4 := by
  unfold calR
  split
  · next h =>
    have := (evB_iff n a).1 ((calB_iff n a b p).1 h).1
    rw [cal_len]; omega
  · simp

theorem aftR_len (m : List Int) (e : Int) : (aftR m e).length ≤ 4 := by
  unfold aftR
  split
  · next h => rw [aft_len]; exact (grs_of ((aftB_iff m e).1 h).1).2
  · simp

set_option maxHeartbeats 4000000 in
theorem exactGivenBy_any (w : World) (vm : Value) (m : List Int) (a : Int) (b : Int) (hvm : IRd w vm m) :
    Calls Try.prog 9 #[vm, .int .i64 a, .int .i64 b] w fun e w' => e = .returned (.bool true) ∧ Below w.heap.size w w' := by
  obtain ⟨Am, cm, rfl, hlm, hmm, -⟩ := id hvm
  have HVm := Lib.hid hvm
  clear hvm
  by_cases hbigm : 1048576 < m.length
  · have hbigm' : (1048576 : Int) < (m.length : Int) := by omega
    go_enter Try.func9, Try.ntmps9
    go_wp2_with fail
    go_ret
    exact ⟨rfl, Below.refl _ _⟩
  have hnm : m.length ≤ 1048576 := by omega
  have hnm' : (m.length : Int) ≤ 1048576 := by omega
  obtain ⟨x, hx⟩ : ∃ x, givN m a b = x := ⟨_, rfl⟩
  obtain ⟨y, hy⟩ : ∃ y, givD m a b = y := ⟨_, rfl⟩
  obtain ⟨t, ht⟩ : ∃ t, givB m a b = t := ⟨_, rfl⟩
  go_enter Try.func9, Try.ntmps9
  go_wp2_with fail
  have B0 : Below w.heap.size w w := Below.refl _ _
  have z0 : w.heap.size ≤ w.heap.size := Nat.le_refl _
  go_wp2_with fail
  refine (toIntS_any w _ m (HVm.out.keep (SameAt.of_below B0)) hnm).mono ?_
  rintro e w1 ⟨va, rfl, ova1, b1⟩
  have z1 := b1.size
  have hva : ∀ g, va.ownBlock = some g → g < w1.heap.size := fun g hg => (ova1.ge g hg).2
  have B1 := below_step B0 b1 (by omega)
  clear B0 b1
  go_wp2_with fail
  refine (specGivenBy_any w1 va m a b (ova1.rd)).mono ?_
  rintro e w2 ⟨rfl, b2⟩
  rw [hx, hy, ht]
  have z2 := b2.size
  have B2 := below_step B1 b2 (by omega)
  have ova2 := ova1.keep (SameAt.of_below b2)
  clear B1 b2 ova1
  clear ova2 hva
  go_wp2_with fail
  refine (toIntS_any w2 _ m (HVm.out.keep (SameAt.of_below B2)) hnm).mono ?_
  rintro e w3 ⟨vc, rfl, ovc3, b3⟩
  have z3 := b3.size
  have hvc : ∀ g, vc.ownBlock = some g → g < w3.heap.size := fun g hg => (ovc3.ge g hg).2
  have B3 := below_step B2 b3 (by omega)
  clear B2 b3
  go_wp2_with fail
  refine (implGivenBy_any w3 vc m a b (ovc3.rd)).mono ?_
  rintro e w4 ⟨rfl, b4⟩
  rw [hx, hy, ht]
  have z4 := b4.size
  have B4 := below_step B3 b4 (by omega)
  have ovc4 := ovc3.keep (SameAt.of_below b4)
  clear B3 b4 ovc3
  cases t
  all_goals
    go_wp2_with fail
    refine (toIntS_any w4 _ m (HVm.out.keep (SameAt.of_below B4)) hnm).mono ?_
    rintro e w5 ⟨ve, rfl, ove5, b5⟩
    have z5 := b5.size
    have hve : ∀ g, ve.ownBlock = some g → g < w5.heap.size := fun g hg => (ove5.ge g hg).2
    have B5 := below_step B4 b5 (by omega)
    have ovc5 := ovc4.keep (SameAt.of_below b5)
    clear B4 b5 ovc4
    go_wp2_with fail
    refine (eqIntS_any w5 vc ve _ _ (ovc5.rd) (ove5.rd)).mono ?_
    rintro e w' ⟨q6, rfl, rfl⟩
    rw [decide_self]
    have z6 : w5.heap.size ≤ (w5.drewN q6).heap.size := Nat.le_refl _
    have B6 : Below w.heap.size w (w5.drewN q6) := below_drewN B5 q6
    have ovc6 : IOwn (w5.drewN q6) _ vc _ := ovc5
    have ove6 : IOwn (w5.drewN q6) _ ve _ := ove5
    clear B5 ovc5 ove5
    generalize w5.drewN q6 = w6 at *
    go_wp2_with fail
    go_ret
    exact ⟨rfl, B6⟩

theorem FnExactGivenBy_walk (a0 : Option Addr) (len0 cap0 : Nat) (z0 : List Int) (a1 : Int) (a2 : Int) (w : World) (w0 : IsRowC .i64 w a0 len0 cap0 z0) (w1 : (Lit.int .i64 a1).wf = true) (w2 : (Lit.int .i64 a2).wf = true) :
    Calls Try.prog 9 #[.slice a0 len0 cap0, .int .i64 a1, .int .i64 a2] w fun e w' => e = .returned (.bool true) ∧ Below w.heap.size w w' := by
  obtain ⟨xs0, h0⟩ := ird_of_row w0
  exact exactGivenBy_any w _ xs0 a1 a2 h0

set_option maxHeartbeats 4000000 in
theorem exactCalledGain_any (w : World) (n : Int) (a : Int) (b : Int) (p : Int)  :
    Calls Try.prog 10 #[.int .i64 n, .int .i64 a, .int .i64 b, .int .i64 p] w fun e w' => e = .returned (.bool true) ∧ Below w.heap.size w w' := by
  have hL := calR_len n a b p
  go_enter Try.func10, Try.ntmps10
  go_wp2_with fail
  have B0 : Below w.heap.size w w := Below.refl _ _
  have z0 : w.heap.size ≤ w.heap.size := Nat.le_refl _
  go_wp2_with fail
  refine (specCalledGain_any w n a b p).mono ?_
  rintro e w1 ⟨vw, rfl, ovw1, b1⟩
  have z1 := b1.size
  have hvw : ∀ g, vw.ownBlock = some g → g < w1.heap.size := fun g hg => (ovw1.ge g hg).2
  have B1 := below_step B0 b1 (by omega)
  clear B0 b1
  go_wp2_with fail
  refine (implCalledGain_any w1 n a b p).mono ?_
  rintro e w2 ⟨vg, rfl, ovg2, b2⟩
  have z2 := b2.size
  have hvg : ∀ g, vg.ownBlock = some g → g < w2.heap.size := fun g hg => (ovg2.ge g hg).2
  have B2 := below_step B1 b2 (by omega)
  have ovw2 := ovw1.keep (SameAt.of_below b2)
  clear B1 b2 ovw1
  go_wp2_with fail
  refine (eqIntS_any w2 vg vw _ _ (ovg2.rd) (ovw2.rd)).mono ?_
  rintro e w' ⟨q3, rfl, rfl⟩
  rw [decide_self]
  have z3 : w2.heap.size ≤ (w2.drewN q3).heap.size := Nat.le_refl _
  have B3 : Below w.heap.size w (w2.drewN q3) := below_drewN B2 q3
  have ovw3 : IOwn (w2.drewN q3) _ vw _ := ovw2
  have ovg3 : IOwn (w2.drewN q3) _ vg _ := ovg2
  clear B2 ovw2 ovg2
  generalize w2.drewN q3 = w3 at *
  go_wp2_with fail
  refine (markIntS_any w3 _ (1) vg _ ovg3 (by omega) (by omega) (by omega)).mono ?_
  rintro e w4 ⟨rfl, ovg4, g4, y4⟩
  have z4 : w3.heap.size ≤ w4.heap.size := by omega
  have ovw4 := ovw3.keep (SameAt.of_grown g4 (own_far ovg3 (fun g hg => by have := hvw g hg; omega)))
  have B4 := below_grown B3 g4 ovg3 (by omega) (by omega)
  clear B3 ovg3 g4 ovw3
  go_wp2_with fail
  refine (heldIntS_any w4 (1) vg _ (ovg4.rd) (by omega) (by omega) (by omega)).mono ?_
  rintro e w' ⟨rfl, rfl⟩
  go_wp2_with fail
  refine (implCalledGain_any w4 n a b p).mono ?_
  rintro e w5 ⟨vj, rfl, ovj5, b5⟩
  have z5 := b5.size
  have hvj : ∀ g, vj.ownBlock = some g → g < w5.heap.size := fun g hg => (ovj5.ge g hg).2
  have B5 := below_step B4 b5 (by omega)
  have ovw5 := ovw4.keep (SameAt.of_below b5)
  have ovg5 := ovg4.keep (SameAt.of_below b5)
  clear B4 b5 ovw4 ovg4
  go_wp2_with fail
  refine (eqIntS_any w5 vj vw _ _ (ovj5.rd) (ovw5.rd)).mono ?_
  rintro e w' ⟨q6, rfl, rfl⟩
  rw [decide_self]
  have z6 : w5.heap.size ≤ (w5.drewN q6).heap.size := Nat.le_refl _
  have B6 : Below w.heap.size w (w5.drewN q6) := below_drewN B5 q6
  have ovw6 : IOwn (w5.drewN q6) _ vw _ := ovw5
  have ovg6 : IOwn (w5.drewN q6) _ vg _ := ovg5
  have ovj6 : IOwn (w5.drewN q6) _ vj _ := ovj5
  clear B5 ovw5 ovg5 ovj5
  generalize w5.drewN q6 = w6 at *
  go_wp2_with fail
  refine (heldIntS_any w6 (1) vg _ (ovg6.rd) (by omega) (by omega) (by omega)).mono ?_
  rintro e w' ⟨rfl, rfl⟩
  go_wp2_with fail
  go_ret
  exact ⟨rfl, B6⟩

theorem FnExactCalledGain_walk (a0 : Int) (a1 : Int) (a2 : Int) (a3 : Int) (w : World) (w0 : (Lit.int .i64 a0).wf = true) (w1 : (Lit.int .i64 a1).wf = true) (w2 : (Lit.int .i64 a2).wf = true) (w3 : (Lit.int .i64 a3).wf = true) :
    Calls Try.prog 10 #[.int .i64 a0, .int .i64 a1, .int .i64 a2, .int .i64 a3] w fun e w' => e = .returned (.bool true) ∧ Below w.heap.size w w' := by
  exact exactCalledGain_any w a0 a1 a2 a3

set_option maxHeartbeats 4000000 in
theorem exactFitsCalled_any (w : World) (vm : Value) (m : List Int) (a : Int) (b : Int) (p : Int) (hvm : IRd w vm m) :
    Calls Try.prog 11 #[vm, .int .i64 a, .int .i64 b, .int .i64 p] w fun e w' => e = .returned (.bool true) ∧ Below w.heap.size w w' := by
  obtain ⟨Am, cm, rfl, hlm, hmm, -⟩ := id hvm
  have HVm := Lib.hid hvm
  clear hvm
  by_cases hbigm : 1048576 < m.length
  · have hbigm' : (1048576 : Int) < (m.length : Int) := by omega
    go_enter Try.func11, Try.ntmps11
    go_wp2_with fail
    go_ret
    exact ⟨rfl, Below.refl _ _⟩
  have hnm : m.length ≤ 1048576 := by omega
  have hnm' : (m.length : Int) ≤ 1048576 := by omega
  obtain ⟨t, ht⟩ : ∃ t, fcB m a b p = t := ⟨_, rfl⟩
  go_enter Try.func11, Try.ntmps11
  go_wp2_with fail
  have B0 : Below w.heap.size w w := Below.refl _ _
  have z0 : w.heap.size ≤ w.heap.size := Nat.le_refl _
  go_wp2_with fail
  refine (toIntS_any w _ m (HVm.out.keep (SameAt.of_below B0)) hnm).mono ?_
  rintro e w1 ⟨va, rfl, ova1, b1⟩
  have z1 := b1.size
  have hva : ∀ g, va.ownBlock = some g → g < w1.heap.size := fun g hg => (ova1.ge g hg).2
  have B1 := below_step B0 b1 (by omega)
  clear B0 b1
  go_wp2_with fail
  refine (specFitsCalled_any w1 va m a b p (ova1.rd)).mono ?_
  rintro e w2 ⟨rfl, b2⟩
  rw [ht]
  have z2 := b2.size
  have B2 := below_step B1 b2 (by omega)
  have ova2 := ova1.keep (SameAt.of_below b2)
  clear B1 b2 ova1
  clear ova2 hva
  go_wp2_with fail
  refine (toIntS_any w2 _ m (HVm.out.keep (SameAt.of_below B2)) hnm).mono ?_
  rintro e w3 ⟨vc, rfl, ovc3, b3⟩
  have z3 := b3.size
  have hvc : ∀ g, vc.ownBlock = some g → g < w3.heap.size := fun g hg => (ovc3.ge g hg).2
  have B3 := below_step B2 b3 (by omega)
  clear B2 b3
  go_wp2_with fail
  refine (implFitsCalled_any w3 vc m a b p (ovc3.rd)).mono ?_
  rintro e w4 ⟨rfl, b4⟩
  rw [ht]
  have z4 := b4.size
  have B4 := below_step B3 b4 (by omega)
  have ovc4 := ovc3.keep (SameAt.of_below b4)
  clear B3 b4 ovc3
  cases t
  all_goals
    go_wp2_with fail
    refine (toIntS_any w4 _ m (HVm.out.keep (SameAt.of_below B4)) hnm).mono ?_
    rintro e w5 ⟨ve, rfl, ove5, b5⟩
    have z5 := b5.size
    have hve : ∀ g, ve.ownBlock = some g → g < w5.heap.size := fun g hg => (ove5.ge g hg).2
    have B5 := below_step B4 b5 (by omega)
    have ovc5 := ovc4.keep (SameAt.of_below b5)
    clear B4 b5 ovc4
    go_wp2_with fail
    refine (eqIntS_any w5 vc ve _ _ (ovc5.rd) (ove5.rd)).mono ?_
    rintro e w' ⟨q6, rfl, rfl⟩
    rw [decide_self]
    have z6 : w5.heap.size ≤ (w5.drewN q6).heap.size := Nat.le_refl _
    have B6 : Below w.heap.size w (w5.drewN q6) := below_drewN B5 q6
    have ovc6 : IOwn (w5.drewN q6) _ vc _ := ovc5
    have ove6 : IOwn (w5.drewN q6) _ ve _ := ove5
    clear B5 ovc5 ove5
    generalize w5.drewN q6 = w6 at *
    go_wp2_with fail
    go_ret
    exact ⟨rfl, B6⟩

theorem FnExactFitsCalled_walk (a0 : Option Addr) (len0 cap0 : Nat) (z0 : List Int) (a1 : Int) (a2 : Int) (a3 : Int) (w : World) (w0 : IsRowC .i64 w a0 len0 cap0 z0) (w1 : (Lit.int .i64 a1).wf = true) (w2 : (Lit.int .i64 a2).wf = true) (w3 : (Lit.int .i64 a3).wf = true) :
    Calls Try.prog 11 #[.slice a0 len0 cap0, .int .i64 a1, .int .i64 a2, .int .i64 a3] w fun e w' => e = .returned (.bool true) ∧ Below w.heap.size w w' := by
  obtain ⟨xs0, h0⟩ := ird_of_row w0
  exact exactFitsCalled_any w _ xs0 a1 a2 a3 h0

set_option maxHeartbeats 4000000 in
theorem exactAfterEvent_any (w : World) (vm : Value) (m : List Int) (e : Int) (hvm : IRd w vm m) :
    Calls Try.prog 12 #[vm, .int .i64 e] w fun e w' => e = .returned (.bool true) ∧ Below w.heap.size w w' := by
  obtain ⟨Am, cm, rfl, hlm, hmm, -⟩ := id hvm
  have HVm := Lib.hid hvm
  clear hvm
  by_cases hbigm : 1048576 < m.length
  · have hbigm' : (1048576 : Int) < (m.length : Int) := by omega
    go_enter Try.func12, Try.ntmps12
    go_wp2_with fail
    go_ret
    exact ⟨rfl, Below.refl _ _⟩
  have hnm : m.length ≤ 1048576 := by omega
  have hnm' : (m.length : Int) ≤ 1048576 := by omega
  have hL := aftR_len m e
  obtain ⟨t, ht⟩ : ∃ t, aftB m e = t := ⟨_, rfl⟩
  go_enter Try.func12, Try.ntmps12
  go_wp2_with fail
  have B0 : Below w.heap.size w w := Below.refl _ _
  have z0 : w.heap.size ≤ w.heap.size := Nat.le_refl _
  go_wp2_with fail
  refine (toIntS_any w _ m (HVm.out.keep (SameAt.of_below B0)) hnm).mono ?_
  rintro e w1 ⟨va, rfl, ova1, b1⟩
  have z1 := b1.size
  have hva : ∀ g, va.ownBlock = some g → g < w1.heap.size := fun g hg => (ova1.ge g hg).2
  have B1 := below_step B0 b1 (by omega)
  clear B0 b1
  go_wp2_with fail
  refine (specAfterEvent_any w1 va m e (ova1.rd)).mono ?_
  rintro e w2 ⟨vw, rfl, ovw2, b2⟩
  rw [ht]
  have z2 := b2.size
  have hvw : ∀ g, vw.ownBlock = some g → g < w2.heap.size := fun g hg => (ovw2.ge g hg).2
  have B2 := below_step B1 b2 (by omega)
  have ova2 := ova1.keep (SameAt.of_below b2)
  clear B1 b2 ova1
  clear ova2 hva
  go_wp2_with fail
  refine (toIntS_any w2 _ m (HVm.out.keep (SameAt.of_below B2)) hnm).mono ?_
  rintro e w3 ⟨vc, rfl, ovc3, b3⟩
  have z3 := b3.size
  have hvc : ∀ g, vc.ownBlock = some g → g < w3.heap.size := fun g hg => (ovc3.ge g hg).2
  have B3 := below_step B2 b3 (by omega)
  have ovw3 := ovw2.keep (SameAt.of_below b3)
  clear B2 b3 ovw2
  go_wp2_with fail
  refine (implAfterEvent_any w3 vc m e (ovc3.rd)).mono ?_
  rintro e w4 ⟨vg, rfl, ovg4, b4⟩
  rw [ht]
  have z4 := b4.size
  have hvg : ∀ g, vg.ownBlock = some g → g < w4.heap.size := fun g hg => (ovg4.ge g hg).2
  have B4 := below_step B3 b4 (by omega)
  have ovw4 := ovw3.keep (SameAt.of_below b4)
  have ovc4 := ovc3.keep (SameAt.of_below b4)
  clear B3 b4 ovw3 ovc3
  cases t
  all_goals
    go_wp2_with fail
    refine (eqIntS_any w4 vg vw _ _ (ovg4.rd) (ovw4.rd)).mono ?_
    rintro e w' ⟨q5, rfl, rfl⟩
    rw [decide_self]
    have z5 : w4.heap.size ≤ (w4.drewN q5).heap.size := Nat.le_refl _
    have B5 : Below w.heap.size w (w4.drewN q5) := below_drewN B4 q5
    have ovw5 : IOwn (w4.drewN q5) _ vw _ := ovw4
    have ovc5 : IOwn (w4.drewN q5) _ vc _ := ovc4
    have ovg5 : IOwn (w4.drewN q5) _ vg _ := ovg4
    clear B4 ovw4 ovc4 ovg4
    generalize w4.drewN q5 = w5 at *
    go_wp2_with fail
    refine (toIntS_any w5 _ m (HVm.out.keep (SameAt.of_below B5)) hnm).mono ?_
    rintro e w6 ⟨ve, rfl, ove6, b6⟩
    have z6 := b6.size
    have hve : ∀ g, ve.ownBlock = some g → g < w6.heap.size := fun g hg => (ove6.ge g hg).2
    have B6 := below_step B5 b6 (by omega)
    have ovw6 := ovw5.keep (SameAt.of_below b6)
    have ovc6 := ovc5.keep (SameAt.of_below b6)
    have ovg6 := ovg5.keep (SameAt.of_below b6)
    clear B5 b6 ovw5 ovc5 ovg5
    go_wp2_with fail
    refine (eqIntS_any w6 vc ve _ _ (ovc6.rd) (ove6.rd)).mono ?_
    rintro e w' ⟨q7, rfl, rfl⟩
    rw [decide_self]
    have z7 : w6.heap.size ≤ (w6.drewN q7).heap.size := Nat.le_refl _
    have B7 : Below w.heap.size w (w6.drewN q7) := below_drewN B6 q7
    have ovw7 : IOwn (w6.drewN q7) _ vw _ := ovw6
    have ovc7 : IOwn (w6.drewN q7) _ vc _ := ovc6
    have ovg7 : IOwn (w6.drewN q7) _ vg _ := ovg6
    have ove7 : IOwn (w6.drewN q7) _ ve _ := ove6
    clear B6 ovw6 ovc6 ovg6 ove6
    generalize w6.drewN q7 = w7 at *
    clear ove7 hve
    go_wp2_with fail
    refine (markIntS_any w7 _ (1) vc _ ovc7 hnm (by omega) (by omega)).mono ?_
    rintro e w8 ⟨rfl, ovc8, g8, y8⟩
    have z8 : w7.heap.size ≤ w8.heap.size := by omega
    have ovw8 := ovw7.keep (SameAt.of_grown g8 (own_far ovc7 (fun g hg => by have := hvw g hg; omega)))
    have ovg8 := ovg7.keep (SameAt.of_grown g8 (own_far' ovg7 (fun g hg => by have := hvc g hg; omega)))
    have B8 := below_grown B7 g8 ovc7 (by omega) (by omega)
    clear B7 ovc7 g8 ovw7 ovg7
    clear ovc8 hvc
    go_wp2_with fail
    refine (eqIntS_any w8 vg vw _ _ (ovg8.rd) (ovw8.rd)).mono ?_
    rintro e w' ⟨q9, rfl, rfl⟩
    rw [decide_self]
    have z9 : w8.heap.size ≤ (w8.drewN q9).heap.size := Nat.le_refl _
    have B9 : Below w.heap.size w (w8.drewN q9) := below_drewN B8 q9
    have ovw9 : IOwn (w8.drewN q9) _ vw _ := ovw8
    have ovg9 : IOwn (w8.drewN q9) _ vg _ := ovg8
    clear B8 ovw8 ovg8
    generalize w8.drewN q9 = w9 at *
    go_wp2_with fail
    refine (markIntS_any w9 _ (1) vg _ ovg9 (by omega) (by omega) (by omega)).mono ?_
    rintro e w10 ⟨rfl, ovg10, g10, y10⟩
    have z10 : w9.heap.size ≤ w10.heap.size := by omega
    have ovw10 := ovw9.keep (SameAt.of_grown g10 (own_far ovg9 (fun g hg => by have := hvw g hg; omega)))
    have B10 := below_grown B9 g10 ovg9 (by omega) (by omega)
    clear B9 ovg9 g10 ovw9
    go_wp2_with fail
    refine (heldIntS_any w10 (1) vg _ (ovg10.rd) (by omega) (by omega) (by omega)).mono ?_
    rintro e w' ⟨rfl, rfl⟩
    go_wp2_with fail
    refine (toIntS_any w10 _ m (HVm.out.keep (SameAt.of_below B10)) hnm).mono ?_
    rintro e w11 ⟨vh, rfl, ovh11, b11⟩
    have z11 := b11.size
    have hvh : ∀ g, vh.ownBlock = some g → g < w11.heap.size := fun g hg => (ovh11.ge g hg).2
    have B11 := below_step B10 b11 (by omega)
    have ovw11 := ovw10.keep (SameAt.of_below b11)
    have ovg11 := ovg10.keep (SameAt.of_below b11)
    clear B10 b11 ovw10 ovg10
    go_wp2_with fail
    refine (implAfterEvent_any w11 vh m e (ovh11.rd)).mono ?_
    rintro e w12 ⟨vj, rfl, ovj12, b12⟩
    rw [ht]
    have z12 := b12.size
    have hvj : ∀ g, vj.ownBlock = some g → g < w12.heap.size := fun g hg => (ovj12.ge g hg).2
    have B12 := below_step B11 b12 (by omega)
    have ovw12 := ovw11.keep (SameAt.of_below b12)
    have ovg12 := ovg11.keep (SameAt.of_below b12)
    have ovh12 := ovh11.keep (SameAt.of_below b12)
    clear B11 b12 ovw11 ovg11 ovh11
    clear ovh12 hvh
    go_wp2_with fail
    refine (eqIntS_any w12 vj vw _ _ (ovj12.rd) (ovw12.rd)).mono ?_
    rintro e w' ⟨q13, rfl, rfl⟩
    rw [decide_self]
    have z13 : w12.heap.size ≤ (w12.drewN q13).heap.size := Nat.le_refl _
    have B13 : Below w.heap.size w (w12.drewN q13) := below_drewN B12 q13
    have ovw13 : IOwn (w12.drewN q13) _ vw _ := ovw12
    have ovg13 : IOwn (w12.drewN q13) _ vg _ := ovg12
    have ovj13 : IOwn (w12.drewN q13) _ vj _ := ovj12
    clear B12 ovw12 ovg12 ovj12
    generalize w12.drewN q13 = w13 at *
    go_wp2_with fail
    refine (heldIntS_any w13 (1) vg _ (ovg13.rd) (by omega) (by omega) (by omega)).mono ?_
    rintro e w' ⟨rfl, rfl⟩
    go_wp2_with fail
    go_ret
    exact ⟨rfl, B13⟩

theorem FnExactAfterEvent_walk (a0 : Option Addr) (len0 cap0 : Nat) (z0 : List Int) (a1 : Int) (w : World) (w0 : IsRowC .i64 w a0 len0 cap0 z0) (w1 : (Lit.int .i64 a1).wf = true) :
    Calls Try.prog 12 #[.slice a0 len0 cap0, .int .i64 a1] w fun e w' => e = .returned (.bool true) ∧ Below w.heap.size w w' := by
  obtain ⟨xs0, h0⟩ := ird_of_row w0
  exact exactAfterEvent_any w _ xs0 a1 h0

end Go.Proofs.Ytghmgnhiglmifaa
