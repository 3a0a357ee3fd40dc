/- The walks of the exact laws of chapter 12. Conditions: stated at each. (gen_hx.py) -/
import Derived.Test.YtbjmhbkpeglpkaaHp
import Derived.Test.YtbjmhbkpeglpkaaHm
namespace Go.Proofs.Ytbjmhbkpeglpkaa
open Go.RowKit
set_option linter.unusedVariables false

theorem redR_len (m : List Int) : (redR m).length ≤ 4 := by
  unfold redR
  split
  · next h => rw [red_len]; exact ((wgtB_iff m).1 h).2.1.2
  · simp

theorem lrnR_len (m r : List Int) : (lrnR m r).length ≤ 4 := by
  unfold lrnR
  split
  · next h => have := ((wgtB_iff m).1 ((lrnB_iff m r).1 h).1).2.1.2; rw [red_len, prodL, List.length_zipWith]; omega
  · simp

theorem laR_len (m : List Int) (rs : List (List Int)) : (laR m rs).length ≤ 4 := by
  unfold laR
  split
  · next h =>
    obtain ⟨h1, h2, h3, h4, h5⟩ := (laB_iff m rs).1 h
    obtain ⟨h6, h7, h8⟩ := (wgtB_iff m).1 h1
    have := (pall_bound (fun x hx => ⟨(h6 x hx).1, h2 x hx⟩) h4 rs.length (Nat.le_refl _)).1
    rw [List.take_length] at this
    rw [red_len, this]; exact h7.2
  · simp

theorem SOwn.up {w : World} {base : Nat} {v : Value} {zss : List (List Int)} (h : SOwn w base v zss) : SUp w.heap.size w base v zss := by
  obtain ⟨us, hl, hg, hr, hp⟩ := h
  exact ⟨us, hl, hg, fun k u zs h1 h2 => ⟨(hr k u zs h1 h2).1, (hr k u zs h1 h2).2, fun g hg' => ((hr k u zs h1 h2).1.ge g hg').2⟩, hp⟩

set_option maxHeartbeats 4000000 in
theorem exactWeightsOk_any (w : World) (vm : Value) (m : List Int) (hvm : IRd w vm m) :
    Calls Try.prog 10 #[vm] w fun e w' => e = .returned (.bool true) ∧ Below w.heap.size w w' := by
  obtain ⟨Am, cm, rfl, hlm, hmm, -⟩ := id hvm
  have HVm := Lib.hid hvm
  clear hvm
  by_cases hbigm : 1048576 < m.length
  · have hbigm' : (1048576 : Int) < (m.length : Int) := by omega
    go_enter Try.func10, Try.ntmps10
    go_wp2_with fail
    go_ret
    exact ⟨rfl, Below.refl _ _⟩
  have hnm : m.length ≤ 1048576 := by omega
  have hnm' : (m.length : Int) ≤ 1048576 := by omega
  obtain ⟨t, ht⟩ : ∃ t, wgtB m = t := ⟨_, rfl⟩
  go_enter Try.func10, Try.ntmps10
  go_wp2_with fail
  have B0 : Below w.heap.size w w := Below.refl _ _
  have z0 : w.heap.size ≤ w.heap.size := Nat.le_refl _
  go_wp2_with fail
  refine (toIntS_any w _ m (HVm.out.keep (SameAt.of_below B0)) hnm).mono ?_
  rintro e w1 ⟨va, rfl, ova1, b1⟩
  have z1 := b1.size
  have hva : ∀ g, va.ownBlock = some g → g < w1.heap.size := fun g hg => (ova1.ge g hg).2
  have B1 := below_step B0 b1 (by omega)
  clear B0 b1
  go_wp2_with fail
  refine (specWeightsOk_any w1 va m (ova1.rd)).mono ?_
  rintro e w' ⟨rfl, rfl⟩
  rw [ht]
  clear ova1 hva
  go_wp2_with fail
  refine (toIntS_any w1 _ m (HVm.out.keep (SameAt.of_below B1)) hnm).mono ?_
  rintro e w2 ⟨vc, rfl, ovc2, b2⟩
  have z2 := b2.size
  have hvc : ∀ g, vc.ownBlock = some g → g < w2.heap.size := fun g hg => (ovc2.ge g hg).2
  have B2 := below_step B1 b2 (by omega)
  clear B1 b2
  go_wp2_with fail
  refine (implWeightsOk_any w2 vc m (ovc2.rd)).mono ?_
  rintro e w3 ⟨rfl, b3⟩
  rw [ht]
  have z3 := b3.size
  have B3 := below_step B2 b3 (by omega)
  have ovc3 := ovc2.keep (SameAt.of_below b3)
  clear B2 b3 ovc2
  cases t
  all_goals
    go_wp2_with fail
    refine (toIntS_any w3 _ m (HVm.out.keep (SameAt.of_below B3)) hnm).mono ?_
    rintro e w4 ⟨ve, rfl, ove4, b4⟩
    have z4 := b4.size
    have hve : ∀ g, ve.ownBlock = some g → g < w4.heap.size := fun g hg => (ove4.ge g hg).2
    have B4 := below_step B3 b4 (by omega)
    have ovc4 := ovc3.keep (SameAt.of_below b4)
    clear B3 b4 ovc3
    go_wp2_with fail
    refine (eqIntS_any w4 vc ve _ _ (ovc4.rd) (ove4.rd)).mono ?_
    rintro e w' ⟨q5, rfl, rfl⟩
    rw [decide_self]
    have z5 : w4.heap.size ≤ (w4.drewN q5).heap.size := Nat.le_refl _
    have B5 : Below w.heap.size w (w4.drewN q5) := below_drewN B4 q5
    have ovc5 : IOwn (w4.drewN q5) _ vc _ := ovc4
    have ove5 : IOwn (w4.drewN q5) _ ve _ := ove4
    clear B4 ovc4 ove4
    generalize w4.drewN q5 = w5 at *
    go_wp2_with fail
    go_ret
    exact ⟨rfl, B5⟩

theorem FnExactWeightsOk_walk (a0 : Option Addr) (len0 cap0 : Nat) (z0 : List Int) (w : World) (w0 : IsRowC .i64 w a0 len0 cap0 z0) :
    Calls Try.prog 10 #[.slice a0 len0 cap0] w fun e w' => e = .returned (.bool true) ∧ Below w.heap.size w w' := by
  obtain ⟨xs0, h0⟩ := ird_of_row w0
  exact exactWeightsOk_any w _ xs0 h0

set_option maxHeartbeats 4000000 in
theorem exactEvidenceOk_any (w : World) (n : Int) (vm : Value) (m : List Int) (hvm : IRd w vm m) :
    Calls Try.prog 12 #[.int .i64 n, vm] w fun e w' => e = .returned (.bool true) ∧ Below w.heap.size w w' := by
  obtain ⟨Am, cm, rfl, hlm, hmm, -⟩ := id hvm
  have HVm := Lib.hid hvm
  clear hvm
  by_cases hbigm : 1048576 < m.length
  · have hbigm' : (1048576 : Int) < (m.length : Int) := by omega
    go_enter Try.func12, Try.ntmps12
    go_wp2_with fail
    go_ret
    exact ⟨rfl, Below.refl _ _⟩
  have hnm : m.length ≤ 1048576 := by omega
  have hnm' : (m.length : Int) ≤ 1048576 := by omega
  obtain ⟨t, ht⟩ : ∃ t, eviB n m = t := ⟨_, rfl⟩
  go_enter Try.func12, Try.ntmps12
  go_wp2_with fail
  have B0 : Below w.heap.size w w := Below.refl _ _
  have z0 : w.heap.size ≤ w.heap.size := Nat.le_refl _
  go_wp2_with fail
  refine (toIntS_any w _ m (HVm.out.keep (SameAt.of_below B0)) hnm).mono ?_
  rintro e w1 ⟨va, rfl, ova1, b1⟩
  have z1 := b1.size
  have hva : ∀ g, va.ownBlock = some g → g < w1.heap.size := fun g hg => (ova1.ge g hg).2
  have B1 := below_step B0 b1 (by omega)
  clear B0 b1
  go_wp2_with fail
  refine (specEvidenceOk_any w1 n va m (ova1.rd)).mono ?_
  rintro e w' ⟨rfl, rfl⟩
  rw [ht]
  clear ova1 hva
  go_wp2_with fail
  refine (toIntS_any w1 _ m (HVm.out.keep (SameAt.of_below B1)) hnm).mono ?_
  rintro e w2 ⟨vc, rfl, ovc2, b2⟩
  have z2 := b2.size
  have hvc : ∀ g, vc.ownBlock = some g → g < w2.heap.size := fun g hg => (ovc2.ge g hg).2
  have B2 := below_step B1 b2 (by omega)
  clear B1 b2
  go_wp2_with fail
  refine (implEvidenceOk_any w2 n vc m (ovc2.rd)).mono ?_
  rintro e w3 ⟨rfl, b3⟩
  rw [ht]
  have z3 := b3.size
  have B3 := below_step B2 b3 (by omega)
  have ovc3 := ovc2.keep (SameAt.of_below b3)
  clear B2 b3 ovc2
  cases t
  all_goals
    go_wp2_with fail
    refine (toIntS_any w3 _ m (HVm.out.keep (SameAt.of_below B3)) hnm).mono ?_
    rintro e w4 ⟨ve, rfl, ove4, b4⟩
    have z4 := b4.size
    have hve : ∀ g, ve.ownBlock = some g → g < w4.heap.size := fun g hg => (ove4.ge g hg).2
    have B4 := below_step B3 b4 (by omega)
    have ovc4 := ovc3.keep (SameAt.of_below b4)
    clear B3 b4 ovc3
    go_wp2_with fail
    refine (eqIntS_any w4 vc ve _ _ (ovc4.rd) (ove4.rd)).mono ?_
    rintro e w' ⟨q5, rfl, rfl⟩
    rw [decide_self]
    have z5 : w4.heap.size ≤ (w4.drewN q5).heap.size := Nat.le_refl _
    have B5 : Below w.heap.size w (w4.drewN q5) := below_drewN B4 q5
    have ovc5 : IOwn (w4.drewN q5) _ vc _ := ovc4
    have ove5 : IOwn (w4.drewN q5) _ ve _ := ove4
    clear B4 ovc4 ove4
    generalize w4.drewN q5 = w5 at *
    go_wp2_with fail
    go_ret
    exact ⟨rfl, B5⟩

theorem FnExactEvidenceOk_walk (a0 : Int) (a1 : Option Addr) (len1 cap1 : Nat) (z1 : List Int) (w : World) (w0 : (Lit.int .i64 a0).wf = true) (w1 : IsRowC .i64 w a1 len1 cap1 z1) :
    Calls Try.prog 12 #[.int .i64 a0, .slice a1 len1 cap1] w fun e w' => e = .returned (.bool true) ∧ Below w.heap.size w w' := by
  obtain ⟨xs1, h1⟩ := ird_of_row w1
  exact exactEvidenceOk_any w a0 _ xs1 h1

set_option maxHeartbeats 4000000 in
theorem exactBelievedOf_any (w : World) (vm : Value) (m : List Int) (e : Int) (hvm : IRd w vm m) :
    Calls Try.prog 15 #[vm, .int .i64 e] w fun e w' => e = .returned (.bool true) ∧ Below w.heap.size w w' := by
  obtain ⟨Am, cm, rfl, hlm, hmm, -⟩ := id hvm
  have HVm := Lib.hid hvm
  clear hvm
  by_cases hbigm : 1048576 < m.length
  · have hbigm' : (1048576 : Int) < (m.length : Int) := by omega
    go_enter Try.func15, Try.ntmps15
    go_wp2_with fail
    go_ret
    exact ⟨rfl, Below.refl _ _⟩
  have hnm : m.length ≤ 1048576 := by omega
  have hnm' : (m.length : Int) ≤ 1048576 := by omega
  obtain ⟨x, hx⟩ : ∃ x, belN m e = x := ⟨_, rfl⟩
  obtain ⟨y, hy⟩ : ∃ y, belD m e = y := ⟨_, rfl⟩
  obtain ⟨t, ht⟩ : ∃ t, belB m e = t := ⟨_, rfl⟩
  go_enter Try.func15, Try.ntmps15
  go_wp2_with fail
  have B0 : Below w.heap.size w w := Below.refl _ _
  have z0 : w.heap.size ≤ w.heap.size := Nat.le_refl _
  go_wp2_with fail
  refine (toIntS_any w _ m (HVm.out.keep (SameAt.of_below B0)) hnm).mono ?_
  rintro e w1 ⟨va, rfl, ova1, b1⟩
  have z1 := b1.size
  have hva : ∀ g, va.ownBlock = some g → g < w1.heap.size := fun g hg => (ova1.ge g hg).2
  have B1 := below_step B0 b1 (by omega)
  clear B0 b1
  go_wp2_with fail
  refine (specBelievedOf_any w1 va m e (ova1.rd)).mono ?_
  rintro e w2 ⟨rfl, b2⟩
  rw [hx, hy, ht]
  have z2 := b2.size
  have B2 := below_step B1 b2 (by omega)
  have ova2 := ova1.keep (SameAt.of_below b2)
  clear B1 b2 ova1
  clear ova2 hva
  go_wp2_with fail
  refine (toIntS_any w2 _ m (HVm.out.keep (SameAt.of_below B2)) hnm).mono ?_
  rintro e w3 ⟨vc, rfl, ovc3, b3⟩
  have z3 := b3.size
  have hvc : ∀ g, vc.ownBlock = some g → g < w3.heap.size := fun g hg => (ovc3.ge g hg).2
  have B3 := below_step B2 b3 (by omega)
  clear B2 b3
  go_wp2_with fail
  refine (implBelievedOf_any w3 vc m e (ovc3.rd)).mono ?_
  rintro e w4 ⟨rfl, b4⟩
  rw [hx, hy, ht]
  have z4 := b4.size
  have B4 := below_step B3 b4 (by omega)
  have ovc4 := ovc3.keep (SameAt.of_below b4)
  clear B3 b4 ovc3
  cases t
  all_goals
    go_wp2_with fail
    refine (toIntS_any w4 _ m (HVm.out.keep (SameAt.of_below B4)) hnm).mono ?_
    rintro e w5 ⟨ve, rfl, ove5, b5⟩
    have z5 := b5.size
    have hve : ∀ g, ve.ownBlock = some g → g < w5.heap.size := fun g hg => (ove5.ge g hg).2
    have B5 := below_step B4 b5 (by omega)
    have ovc5 := ovc4.keep (SameAt.of_below b5)
    clear B4 b5 ovc4
    go_wp2_with fail
    refine (eqIntS_any w5 vc ve _ _ (ovc5.rd) (ove5.rd)).mono ?_
    rintro e w' ⟨q6, rfl, rfl⟩
    rw [decide_self]
    have z6 : w5.heap.size ≤ (w5.drewN q6).heap.size := Nat.le_refl _
    have B6 : Below w.heap.size w (w5.drewN q6) := below_drewN B5 q6
    have ovc6 : IOwn (w5.drewN q6) _ vc _ := ovc5
    have ove6 : IOwn (w5.drewN q6) _ ve _ := ove5
    clear B5 ovc5 ove5
    generalize w5.drewN q6 = w6 at *
    go_wp2_with fail
    go_ret
    exact ⟨rfl, B6⟩

theorem FnExactBelievedOf_walk (a0 : Option Addr) (len0 cap0 : Nat) (z0 : List Int) (a1 : Int) (w : World) (w0 : IsRowC .i64 w a0 len0 cap0 z0) (w1 : (Lit.int .i64 a1).wf = true) :
    Calls Try.prog 15 #[.slice a0 len0 cap0, .int .i64 a1] w fun e w' => e = .returned (.bool true) ∧ Below w.heap.size w w' := by
  obtain ⟨xs0, h0⟩ := ird_of_row w0
  exact exactBelievedOf_any w _ xs0 a1 h0

set_option maxHeartbeats 4000000 in
theorem exactReducedWeights_any (w : World) (vm : Value) (m : List Int) (hvm : IRd w vm m) :
    Calls Try.prog 11 #[vm] w fun e w' => e = .returned (.bool true) ∧ Below w.heap.size w w' := by
  obtain ⟨Am, cm, rfl, hlm, hmm, -⟩ := id hvm
  have HVm := Lib.hid hvm
  clear hvm
  by_cases hbigm : 1048576 < m.length
  · have hbigm' : (1048576 : Int) < (m.length : Int) := by omega
    go_enter Try.func11, Try.ntmps11
    go_wp2_with fail
    go_ret
    exact ⟨rfl, Below.refl _ _⟩
  have hnm : m.length ≤ 1048576 := by omega
  have hnm' : (m.length : Int) ≤ 1048576 := by omega
  have hL := redR_len m
  go_enter Try.func11, Try.ntmps11
  go_wp2_with fail
  have B0 : Below w.heap.size w w := Below.refl _ _
  have z0 : w.heap.size ≤ w.heap.size := Nat.le_refl _
  go_wp2_with fail
  refine (toIntS_any w _ m (HVm.out.keep (SameAt.of_below B0)) hnm).mono ?_
  rintro e w1 ⟨va, rfl, ova1, b1⟩
  have z1 := b1.size
  have hva : ∀ g, va.ownBlock = some g → g < w1.heap.size := fun g hg => (ova1.ge g hg).2
  have B1 := below_step B0 b1 (by omega)
  clear B0 b1
  go_wp2_with fail
  refine (specReducedWeights_any w1 va m (ova1.rd)).mono ?_
  rintro e w2 ⟨vw, rfl, ovw2, b2⟩
  have z2 := b2.size
  have hvw : ∀ g, vw.ownBlock = some g → g < w2.heap.size := fun g hg => (ovw2.ge g hg).2
  have B2 := below_step B1 b2 (by omega)
  have ova2 := ova1.keep (SameAt.of_below b2)
  clear B1 b2 ova1
  clear ova2 hva
  go_wp2_with fail
  refine (toIntS_any w2 _ m (HVm.out.keep (SameAt.of_below B2)) hnm).mono ?_
  rintro e w3 ⟨vc, rfl, ovc3, b3⟩
  have z3 := b3.size
  have hvc : ∀ g, vc.ownBlock = some g → g < w3.heap.size := fun g hg => (ovc3.ge g hg).2
  have B3 := below_step B2 b3 (by omega)
  have ovw3 := ovw2.keep (SameAt.of_below b3)
  clear B2 b3 ovw2
  go_wp2_with fail
  refine (implReducedWeights_any w3 vc m (ovc3.rd)).mono ?_
  rintro e w4 ⟨vg, rfl, ovg4, b4⟩
  have z4 := b4.size
  have hvg : ∀ g, vg.ownBlock = some g → g < w4.heap.size := fun g hg => (ovg4.ge g hg).2
  have B4 := below_step B3 b4 (by omega)
  have ovw4 := ovw3.keep (SameAt.of_below b4)
  have ovc4 := ovc3.keep (SameAt.of_below b4)
  clear B3 b4 ovw3 ovc3
  go_wp2_with fail
  refine (eqIntS_any w4 vg vw _ _ (ovg4.rd) (ovw4.rd)).mono ?_
  rintro e w' ⟨q5, rfl, rfl⟩
  rw [decide_self]
  have z5 : w4.heap.size ≤ (w4.drewN q5).heap.size := Nat.le_refl _
  have B5 : Below w.heap.size w (w4.drewN q5) := below_drewN B4 q5
  have ovw5 : IOwn (w4.drewN q5) _ vw _ := ovw4
  have ovc5 : IOwn (w4.drewN q5) _ vc _ := ovc4
  have ovg5 : IOwn (w4.drewN q5) _ vg _ := ovg4
  clear B4 ovw4 ovc4 ovg4
  generalize w4.drewN q5 = w5 at *
  go_wp2_with fail
  refine (toIntS_any w5 _ m (HVm.out.keep (SameAt.of_below B5)) hnm).mono ?_
  rintro e w6 ⟨ve, rfl, ove6, b6⟩
  have z6 := b6.size
  have hve : ∀ g, ve.ownBlock = some g → g < w6.heap.size := fun g hg => (ove6.ge g hg).2
  have B6 := below_step B5 b6 (by omega)
  have ovw6 := ovw5.keep (SameAt.of_below b6)
  have ovc6 := ovc5.keep (SameAt.of_below b6)
  have ovg6 := ovg5.keep (SameAt.of_below b6)
  clear B5 b6 ovw5 ovc5 ovg5
  go_wp2_with fail
  refine (eqIntS_any w6 vc ve _ _ (ovc6.rd) (ove6.rd)).mono ?_
  rintro e w' ⟨q7, rfl, rfl⟩
  rw [decide_self]
  have z7 : w6.heap.size ≤ (w6.drewN q7).heap.size := Nat.le_refl _
  have B7 : Below w.heap.size w (w6.drewN q7) := below_drewN B6 q7
  have ovw7 : IOwn (w6.drewN q7) _ vw _ := ovw6
  have ovc7 : IOwn (w6.drewN q7) _ vc _ := ovc6
  have ovg7 : IOwn (w6.drewN q7) _ vg _ := ovg6
  have ove7 : IOwn (w6.drewN q7) _ ve _ := ove6
  clear B6 ovw6 ovc6 ovg6 ove6
  generalize w6.drewN q7 = w7 at *
  clear ove7 hve
  go_wp2_with fail
  refine (markIntS_any w7 _ (1) vc _ ovc7 hnm (by omega) (by omega)).mono ?_
  rintro e w8 ⟨rfl, ovc8, g8, y8⟩
  have z8 : w7.heap.size ≤ w8.heap.size := by omega
  have ovw8 := ovw7.keep (SameAt.of_grown g8 (own_far ovc7 (fun g hg => by have := hvw g hg; omega)))
  have ovg8 := ovg7.keep (SameAt.of_grown g8 (own_far' ovg7 (fun g hg => by have := hvc g hg; omega)))
  have B8 := below_grown B7 g8 ovc7 (by omega) (by omega)
  clear B7 ovc7 g8 ovw7 ovg7
  clear ovc8 hvc
  go_wp2_with fail
  refine (eqIntS_any w8 vg vw _ _ (ovg8.rd) (ovw8.rd)).mono ?_
  rintro e w' ⟨q9, rfl, rfl⟩
  rw [decide_self]
  have z9 : w8.heap.size ≤ (w8.drewN q9).heap.size := Nat.le_refl _
  have B9 : Below w.heap.size w (w8.drewN q9) := below_drewN B8 q9
  have ovw9 : IOwn (w8.drewN q9) _ vw _ := ovw8
  have ovg9 : IOwn (w8.drewN q9) _ vg _ := ovg8
  clear B8 ovw8 ovg8
  generalize w8.drewN q9 = w9 at *
  go_wp2_with fail
  refine (markIntS_any w9 _ (1) vg _ ovg9 (by omega) (by omega) (by omega)).mono ?_
  rintro e w10 ⟨rfl, ovg10, g10, y10⟩
  have z10 : w9.heap.size ≤ w10.heap.size := by omega
  have ovw10 := ovw9.keep (SameAt.of_grown g10 (own_far ovg9 (fun g hg => by have := hvw g hg; omega)))
  have B10 := below_grown B9 g10 ovg9 (by omega) (by omega)
  clear B9 ovg9 g10 ovw9
  go_wp2_with fail
  refine (heldIntS_any w10 (1) vg _ (ovg10.rd) (by omega) (by omega) (by omega)).mono ?_
  rintro e w' ⟨rfl, rfl⟩
  go_wp2_with fail
  refine (toIntS_any w10 _ m (HVm.out.keep (SameAt.of_below B10)) hnm).mono ?_
  rintro e w11 ⟨vh, rfl, ovh11, b11⟩
  have z11 := b11.size
  have hvh : ∀ g, vh.ownBlock = some g → g < w11.heap.size := fun g hg => (ovh11.ge g hg).2
  have B11 := below_step B10 b11 (by omega)
  have ovw11 := ovw10.keep (SameAt.of_below b11)
  have ovg11 := ovg10.keep (SameAt.of_below b11)
  clear B10 b11 ovw10 ovg10
  go_wp2_with fail
  refine (implReducedWeights_any w11 vh m (ovh11.rd)).mono ?_
  rintro e w12 ⟨vj, rfl, ovj12, b12⟩
  have z12 := b12.size
  have hvj : ∀ g, vj.ownBlock = some g → g < w12.heap.size := fun g hg => (ovj12.ge g hg).2
  have B12 := below_step B11 b12 (by omega)
  have ovw12 := ovw11.keep (SameAt.of_below b12)
  have ovg12 := ovg11.keep (SameAt.of_below b12)
  have ovh12 := ovh11.keep (SameAt.of_below b12)
  clear B11 b12 ovw11 ovg11 ovh11
  clear ovh12 hvh
  go_wp2_with fail
  refine (eqIntS_any w12 vj vw _ _ (ovj12.rd) (ovw12.rd)).mono ?_
  rintro e w' ⟨q13, rfl, rfl⟩
  rw [decide_self]
  have z13 : w12.heap.size ≤ (w12.drewN q13).heap.size := Nat.le_refl _
  have B13 : Below w.heap.size w (w12.drewN q13) := below_drewN B12 q13
  have ovw13 : IOwn (w12.drewN q13) _ vw _ := ovw12
  have ovg13 : IOwn (w12.drewN q13) _ vg _ := ovg12
  have ovj13 : IOwn (w12.drewN q13) _ vj _ := ovj12
  clear B12 ovw12 ovg12 ovj12
  generalize w12.drewN q13 = w13 at *
  go_wp2_with fail
  refine (heldIntS_any w13 (1) vg _ (ovg13.rd) (by omega) (by omega) (by omega)).mono ?_
  rintro e w' ⟨rfl, rfl⟩
  go_wp2_with fail
  go_ret
  exact ⟨rfl, B13⟩

theorem FnExactReducedWeights_walk (a0 : Option Addr) (len0 cap0 : Nat) (z0 : List Int) (w : World) (w0 : IsRowC .i64 w a0 len0 cap0 z0) :
    Calls Try.prog 11 #[.slice a0 len0 cap0] w fun e w' => e = .returned (.bool true) ∧ Below w.heap.size w w' := by
  obtain ⟨xs0, h0⟩ := ird_of_row w0
  exact exactReducedWeights_any w _ xs0 h0

set_option maxHeartbeats 4000000 in
theorem exactLearnedFrom_any (w : World) (va : Value) (a : List Int) (vb : Value) (b : List Int) (hva : IRd w va a) (hvb : IRd w vb b) :
    Calls Try.prog 13 #[va, vb] w fun e w' => e = .returned (.bool true) ∧ Below w.heap.size w w' := by
  obtain ⟨Aa, ca, rfl, hla, hma, -⟩ := id hva
  have HVa := Lib.hid hva
  clear hva
  obtain ⟨Ab, cb, rfl, hlb, hmb, -⟩ := id hvb
  have HVb := Lib.hid hvb
  clear hvb
  by_cases hbiga : 1048576 < a.length
  · have hbiga' : (1048576 : Int) < (a.length : Int) := by omega
    go_enter Try.func13, Try.ntmps13
    go_wp2_with fail
    go_ret
    exact ⟨rfl, Below.refl _ _⟩
  by_cases hbigb : 1048576 < b.length
  · have hbigb' : (1048576 : Int) < (b.length : Int) := by omega
    have hsa' : (a.length : Int) ≤ 1048576 := by omega
    go_enter Try.func13, Try.ntmps13
    go_wp2_with fail
    go_ret
    exact ⟨rfl, Below.refl _ _⟩
  have hna : a.length ≤ 1048576 := by omega
  have hna' : (a.length : Int) ≤ 1048576 := by omega
  have hnb : b.length ≤ 1048576 := by omega
  have hnb' : (b.length : Int) ≤ 1048576 := by omega
  have hL := lrnR_len a b
  obtain ⟨t, ht⟩ : ∃ t, lrnB a b = t := ⟨_, rfl⟩
  go_enter Try.func13, Try.ntmps13
  go_wp2_with fail
  have B0 : Below w.heap.size w w := Below.refl _ _
  have z0 : w.heap.size ≤ w.heap.size := Nat.le_refl _
  go_wp2_with fail
  refine (toIntS_any w _ a (HVa.out.keep (SameAt.of_below B0)) hna).mono ?_
  rintro e w1 ⟨va, rfl, ova1, b1⟩
  have z1 := b1.size
  have hva : ∀ g, va.ownBlock = some g → g < w1.heap.size := fun g hg => (ova1.ge g hg).2
  have B1 := below_step B0 b1 (by omega)
  clear B0 b1
  go_wp2_with fail
  refine (toIntS_any w1 _ b (HVb.out.keep (SameAt.of_below B1)) hnb).mono ?_
  rintro e w2 ⟨vb, rfl, ovb2, b2⟩
  have z2 := b2.size
  have hvb : ∀ g, vb.ownBlock = some g → g < w2.heap.size := fun g hg => (ovb2.ge g hg).2
  have B2 := below_step B1 b2 (by omega)
  have ova2 := ova1.keep (SameAt.of_below b2)
  clear B1 b2 ova1
  go_wp2_with fail
  refine (specLearnedFrom_any w2 va vb a b (ova2.rd) (ovb2.rd)).mono ?_
  rintro e w3 ⟨vw, rfl, ovw3, b3⟩
  rw [ht]
  have z3 := b3.size
  have hvw : ∀ g, vw.ownBlock = some g → g < w3.heap.size := fun g hg => (ovw3.ge g hg).2
  have B3 := below_step B2 b3 (by omega)
  have ova3 := ova2.keep (SameAt.of_below b3)
  have ovb3 := ovb2.keep (SameAt.of_below b3)
  clear B2 b3 ova2 ovb2
  clear ova3 hva
  clear ovb3 hvb
  go_wp2_with fail
  refine (toIntS_any w3 _ a (HVa.out.keep (SameAt.of_below B3)) hna).mono ?_
  rintro e w4 ⟨vc, rfl, ovc4, b4⟩
  have z4 := b4.size
  have hvc : ∀ g, vc.ownBlock = some g → g < w4.heap.size := fun g hg => (ovc4.ge g hg).2
  have B4 := below_step B3 b4 (by omega)
  have ovw4 := ovw3.keep (SameAt.of_below b4)
  clear B3 b4 ovw3
  go_wp2_with fail
  refine (toIntS_any w4 _ b (HVb.out.keep (SameAt.of_below B4)) hnb).mono ?_
  rintro e w5 ⟨vd, rfl, ovd5, b5⟩
  have z5 := b5.size
  have hvd : ∀ g, vd.ownBlock = some g → g < w5.heap.size := fun g hg => (ovd5.ge g hg).2
  have B5 := below_step B4 b5 (by omega)
  have ovw5 := ovw4.keep (SameAt.of_below b5)
  have ovc5 := ovc4.keep (SameAt.of_below b5)
  clear B4 b5 ovw4 ovc4
  go_wp2_with fail
  refine (implLearnedFrom_any w5 vc vd a b (ovc5.rd) (ovd5.rd)).mono ?_
  rintro e w6 ⟨vg, rfl, ovg6, b6⟩
  rw [ht]
  have z6 := b6.size
  have hvg : ∀ g, vg.ownBlock = some g → g < w6.heap.size := fun g hg => (ovg6.ge g hg).2
  have B6 := below_step B5 b6 (by omega)
  have ovw6 := ovw5.keep (SameAt.of_below b6)
  have ovc6 := ovc5.keep (SameAt.of_below b6)
  have ovd6 := ovd5.keep (SameAt.of_below b6)
  clear B5 b6 ovw5 ovc5 ovd5
  cases t
  all_goals
    go_wp2_with fail
    refine (eqIntS_any w6 vg vw _ _ (ovg6.rd) (ovw6.rd)).mono ?_
    rintro e w' ⟨q7, rfl, rfl⟩
    rw [decide_self]
    have z7 : w6.heap.size ≤ (w6.drewN q7).heap.size := Nat.le_refl _
    have B7 : Below w.heap.size w (w6.drewN q7) := below_drewN B6 q7
    have ovw7 : IOwn (w6.drewN q7) _ vw _ := ovw6
    have ovc7 : IOwn (w6.drewN q7) _ vc _ := ovc6
    have ovd7 : IOwn (w6.drewN q7) _ vd _ := ovd6
    have ovg7 : IOwn (w6.drewN q7) _ vg _ := ovg6
    clear B6 ovw6 ovc6 ovd6 ovg6
    generalize w6.drewN q7 = w7 at *
    go_wp2_with fail
    refine (toIntS_any w7 _ a (HVa.out.keep (SameAt.of_below B7)) hna).mono ?_
    rintro e w8 ⟨ve, rfl, ove8, b8⟩
    have z8 := b8.size
    have hve : ∀ g, ve.ownBlock = some g → g < w8.heap.size := fun g hg => (ove8.ge g hg).2
    have B8 := below_step B7 b8 (by omega)
    have ovw8 := ovw7.keep (SameAt.of_below b8)
    have ovc8 := ovc7.keep (SameAt.of_below b8)
    have ovd8 := ovd7.keep (SameAt.of_below b8)
    have ovg8 := ovg7.keep (SameAt.of_below b8)
    clear B7 b8 ovw7 ovc7 ovd7 ovg7
    go_wp2_with fail
    refine (eqIntS_any w8 vc ve _ _ (ovc8.rd) (ove8.rd)).mono ?_
    rintro e w' ⟨q9, rfl, rfl⟩
    rw [decide_self]
    have z9 : w8.heap.size ≤ (w8.drewN q9).heap.size := Nat.le_refl _
    have B9 : Below w.heap.size w (w8.drewN q9) := below_drewN B8 q9
    have ovw9 : IOwn (w8.drewN q9) _ vw _ := ovw8
    have ovc9 : IOwn (w8.drewN q9) _ vc _ := ovc8
    have ovd9 : IOwn (w8.drewN q9) _ vd _ := ovd8
    have ovg9 : IOwn (w8.drewN q9) _ vg _ := ovg8
    have ove9 : IOwn (w8.drewN q9) _ ve _ := ove8
    clear B8 ovw8 ovc8 ovd8 ovg8 ove8
    generalize w8.drewN q9 = w9 at *
    clear ove9 hve
    go_wp2_with fail
    refine (toIntS_any w9 _ b (HVb.out.keep (SameAt.of_below B9)) hnb).mono ?_
    rintro e w10 ⟨vf, rfl, ovf10, b10⟩
    have z10 := b10.size
    have hvf : ∀ g, vf.ownBlock = some g → g < w10.heap.size := fun g hg => (ovf10.ge g hg).2
    have B10 := below_step B9 b10 (by omega)
    have ovw10 := ovw9.keep (SameAt.of_below b10)
    have ovc10 := ovc9.keep (SameAt.of_below b10)
    have ovd10 := ovd9.keep (SameAt.of_below b10)
    have ovg10 := ovg9.keep (SameAt.of_below b10)
    clear B9 b10 ovw9 ovc9 ovd9 ovg9
    go_wp2_with fail
    refine (eqIntS_any w10 vd vf _ _ (ovd10.rd) (ovf10.rd)).mono ?_
    rintro e w' ⟨q11, rfl, rfl⟩
    rw [decide_self]
    have z11 : w10.heap.size ≤ (w10.drewN q11).heap.size := Nat.le_refl _
    have B11 : Below w.heap.size w (w10.drewN q11) := below_drewN B10 q11
    have ovw11 : IOwn (w10.drewN q11) _ vw _ := ovw10
    have ovc11 : IOwn (w10.drewN q11) _ vc _ := ovc10
    have ovd11 : IOwn (w10.drewN q11) _ vd _ := ovd10
    have ovg11 : IOwn (w10.drewN q11) _ vg _ := ovg10
    have ovf11 : IOwn (w10.drewN q11) _ vf _ := ovf10
    clear B10 ovw10 ovc10 ovd10 ovg10 ovf10
    generalize w10.drewN q11 = w11 at *
    clear ovf11 hvf
    go_wp2_with fail
    refine (markIntS_any w11 _ (1) vc _ ovc11 hna (by omega) (by omega)).mono ?_
    rintro e w12 ⟨rfl, ovc12, g12, y12⟩
    have z12 : w11.heap.size ≤ w12.heap.size := by omega
    have ovw12 := ovw11.keep (SameAt.of_grown g12 (own_far ovc11 (fun g hg => by have := hvw g hg; omega)))
    have ovd12 := ovd11.keep (SameAt.of_grown g12 (own_far' ovd11 (fun g hg => by have := hvc g hg; omega)))
    have ovg12 := ovg11.keep (SameAt.of_grown g12 (own_far' ovg11 (fun g hg => by have := hvc g hg; omega)))
    have B12 := below_grown B11 g12 ovc11 (by omega) (by omega)
    clear B11 ovc11 g12 ovw11 ovd11 ovg11
    clear ovc12 hvc
    go_wp2_with fail
    refine (markIntS_any w12 _ (1 + (a.length : Int)) vd _ ovd12 hnb (by omega) (by omega)).mono ?_
    rintro e w13 ⟨rfl, ovd13, g13, y13⟩
    have z13 : w12.heap.size ≤ w13.heap.size := by omega
    have ovw13 := ovw12.keep (SameAt.of_grown g13 (own_far ovd12 (fun g hg => by have := hvw g hg; omega)))
    have ovg13 := ovg12.keep (SameAt.of_grown g13 (own_far' ovg12 (fun g hg => by have := hvd g hg; omega)))
    have B13 := below_grown B12 g13 ovd12 (by omega) (by omega)
    clear B12 ovd12 g13 ovw12 ovg12
    clear ovd13 hvd
    go_wp2_with fail
    refine (eqIntS_any w13 vg vw _ _ (ovg13.rd) (ovw13.rd)).mono ?_
    rintro e w' ⟨q14, rfl, rfl⟩
    rw [decide_self]
    have z14 : w13.heap.size ≤ (w13.drewN q14).heap.size := Nat.le_refl _
    have B14 : Below w.heap.size w (w13.drewN q14) := below_drewN B13 q14
    have ovw14 : IOwn (w13.drewN q14) _ vw _ := ovw13
    have ovg14 : IOwn (w13.drewN q14) _ vg _ := ovg13
    clear B13 ovw13 ovg13
    generalize w13.drewN q14 = w14 at *
    go_wp2_with fail
    refine (markIntS_any w14 _ (1) vg _ ovg14 (by omega) (by omega) (by omega)).mono ?_
    rintro e w15 ⟨rfl, ovg15, g15, y15⟩
    have z15 : w14.heap.size ≤ w15.heap.size := by omega
    have ovw15 := ovw14.keep (SameAt.of_grown g15 (own_far ovg14 (fun g hg => by have := hvw g hg; omega)))
    have B15 := below_grown B14 g15 ovg14 (by omega) (by omega)
    clear B14 ovg14 g15 ovw14
    go_wp2_with fail
    refine (heldIntS_any w15 (1) vg _ (ovg15.rd) (by omega) (by omega) (by omega)).mono ?_
    rintro e w' ⟨rfl, rfl⟩
    go_wp2_with fail
    refine (toIntS_any w15 _ a (HVa.out.keep (SameAt.of_below B15)) hna).mono ?_
    rintro e w16 ⟨vh, rfl, ovh16, b16⟩
    have z16 := b16.size
    have hvh : ∀ g, vh.ownBlock = some g → g < w16.heap.size := fun g hg => (ovh16.ge g hg).2
    have B16 := below_step B15 b16 (by omega)
    have ovw16 := ovw15.keep (SameAt.of_below b16)
    have ovg16 := ovg15.keep (SameAt.of_below b16)
    clear B15 b16 ovw15 ovg15
    go_wp2_with fail
    refine (toIntS_any w16 _ b (HVb.out.keep (SameAt.of_below B16)) hnb).mono ?_
    rintro e w17 ⟨vi, rfl, ovi17, b17⟩
    have z17 := b17.size
    have hvi : ∀ g, vi.ownBlock = some g → g < w17.heap.size := fun g hg => (ovi17.ge g hg).2
    have B17 := below_step B16 b17 (by omega)
    have ovw17 := ovw16.keep (SameAt.of_below b17)
    have ovg17 := ovg16.keep (SameAt.of_below b17)
    have ovh17 := ovh16.keep (SameAt.of_below b17)
    clear B16 b17 ovw16 ovg16 ovh16
    go_wp2_with fail
    refine (implLearnedFrom_any w17 vh vi a b (ovh17.rd) (ovi17.rd)).mono ?_
    rintro e w18 ⟨vj, rfl, ovj18, b18⟩
    rw [ht]
    have z18 := b18.size
    have hvj : ∀ g, vj.ownBlock = some g → g < w18.heap.size := fun g hg => (ovj18.ge g hg).2
    have B18 := below_step B17 b18 (by omega)
    have ovw18 := ovw17.keep (SameAt.of_below b18)
    have ovg18 := ovg17.keep (SameAt.of_below b18)
    have ovh18 := ovh17.keep (SameAt.of_below b18)
    have ovi18 := ovi17.keep (SameAt.of_below b18)
    clear B17 b18 ovw17 ovg17 ovh17 ovi17
    clear ovh18 hvh
    clear ovi18 hvi
    go_wp2_with fail
    refine (eqIntS_any w18 vj vw _ _ (ovj18.rd) (ovw18.rd)).mono ?_
    rintro e w' ⟨q19, rfl, rfl⟩
    rw [decide_self]
    have z19 : w18.heap.size ≤ (w18.drewN q19).heap.size := Nat.le_refl _
    have B19 : Below w.heap.size w (w18.drewN q19) := below_drewN B18 q19
    have ovw19 : IOwn (w18.drewN q19) _ vw _ := ovw18
    have ovg19 : IOwn (w18.drewN q19) _ vg _ := ovg18
    have ovj19 : IOwn (w18.drewN q19) _ vj _ := ovj18
    clear B18 ovw18 ovg18 ovj18
    generalize w18.drewN q19 = w19 at *
    go_wp2_with fail
    refine (heldIntS_any w19 (1) vg _ (ovg19.rd) (by omega) (by omega) (by omega)).mono ?_
    rintro e w' ⟨rfl, rfl⟩
    go_wp2_with fail
    go_ret
    exact ⟨rfl, B19⟩

theorem FnExactLearnedFrom_walk (a0 : Option Addr) (len0 cap0 : Nat) (z0 : List Int) (a1 : Option Addr) (len1 cap1 : Nat) (z1 : List Int) (w : World) (w0 : IsRowC .i64 w a0 len0 cap0 z0) (w1 : IsRowC .i64 w a1 len1 cap1 z1) :
    Calls Try.prog 13 #[.slice a0 len0 cap0, .slice a1 len1 cap1] w fun e w' => e = .returned (.bool true) ∧ Below w.heap.size w w' := by
  obtain ⟨xs0, h0⟩ := ird_of_row w0
  obtain ⟨xs1, h1⟩ := ird_of_row w1
  exact exactLearnedFrom_any w _ xs0 _ xs1 h0 h1

set_option maxHeartbeats 4000000 in
theorem exactLearnedAll_any (w : World) (va : Value) (a : List Int) (vb : Value) (b : List (List Int)) (hva : IRd w va a) (hvb : SRd w vb b) :
    Calls Try.prog 14 #[va, vb] w fun e w' => e = .returned (.bool true) ∧ Below w.heap.size w w' := by
  obtain ⟨Aa, ca, rfl, hla, hma, -⟩ := id hva
  have HVa := Lib.hid hva
  clear hva
  obtain ⟨Ab, cb, rfl, hlb, hmb⟩ := hvb.form
  have HVb := Lib.hid hvb
  clear hvb
  by_cases hbiga : 1048576 < a.length
  · have hbiga' : (1048576 : Int) < (a.length : Int) := by omega
    go_enter Try.func14, Try.ntmps14
    go_wp2_with fail
    go_ret
    exact ⟨rfl, Below.refl _ _⟩
  have hna : a.length ≤ 1048576 := by omega
  have hna' : (a.length : Int) ≤ 1048576 := by omega
  have hL := laR_len a b
  obtain ⟨t, ht⟩ : ∃ t, laB a b = t := ⟨_, rfl⟩
  go_enter Try.func14, Try.ntmps14
  go_wp2_with fail
  refine (szIntSS_any w _ b HVb.out).mono ?_
  rintro e w' ⟨nb, rfl, rfl, hszb⟩
  by_cases hng : nb < 0
  · go_wp2_with fail
    go_ret
    exact ⟨rfl, Below.refl _ _⟩
  obtain ⟨hnb, hNb, hTb⟩ := hszb (by omega)
  have hng' : 0 ≤ nb := by omega
  have HNb := Lib.hid hNb
  clear hNb hszb hng
  have B0 : Below w.heap.size w w := Below.refl _ _
  have z0 : w.heap.size ≤ w.heap.size := Nat.le_refl _
  go_wp2_with fail
  refine (toIntS_any w _ a (HVa.out.keep (SameAt.of_below B0)) hna).mono ?_
  rintro e w1 ⟨va, rfl, ova1, b1⟩
  have z1 := b1.size
  have hva : ∀ g, va.ownBlock = some g → g < w1.heap.size := fun g hg => (ova1.ge g hg).2
  have B1 := below_step B0 b1 (by omega)
  clear B0 b1
  go_wp2_with fail
  refine (toIntSS_any w1 _ b (HVb.out.below B1) hnb HNb.out).mono ?_
  rintro e w2 ⟨vb, rfl, ovb2, b2⟩
  have ovb2 := ovb2.up
  have z2 := b2.size
  have hvb : ∀ g, vb.ownBlock = some g → g < w2.heap.size := fun g hg => (ovb2.ge g hg).2
  have B2 := below_step B1 b2 (by omega)
  have ova2 := ova1.keep (SameAt.of_below b2)
  clear B1 b2 ova1
  go_wp2_with fail
  refine (specLearnedAll_any w2 va vb a b (ova2.rd) (ovb2.rd)).mono ?_
  rintro e w3 ⟨vw, rfl, ovw3, b3⟩
  rw [ht]
  have z3 := b3.size
  have hvw : ∀ g, vw.ownBlock = some g → g < w3.heap.size := fun g hg => (ovw3.ge g hg).2
  have B3 := below_step B2 b3 (by omega)
  have ova3 := ova2.keep (SameAt.of_below b3)
  have ovb3 := ovb2.keep b3
  clear B2 b3 ova2 ovb2
  clear ova3 hva
  clear ovb3 hvb
  go_wp2_with fail
  refine (toIntS_any w3 _ a (HVa.out.keep (SameAt.of_below B3)) hna).mono ?_
  rintro e w4 ⟨vc, rfl, ovc4, b4⟩
  have z4 := b4.size
  have hvc : ∀ g, vc.ownBlock = some g → g < w4.heap.size := fun g hg => (ovc4.ge g hg).2
  have B4 := below_step B3 b4 (by omega)
  have ovw4 := ovw3.keep (SameAt.of_below b4)
  clear B3 b4 ovw3
  go_wp2_with fail
  refine (toIntSS_any w4 _ b (HVb.out.below B4) hnb HNb.out).mono ?_
  rintro e w5 ⟨vd, rfl, ovd5, b5⟩
  have ovd5 := ovd5.up
  have z5 := b5.size
  have hvd : ∀ g, vd.ownBlock = some g → g < w5.heap.size := fun g hg => (ovd5.ge g hg).2
  have B5 := below_step B4 b5 (by omega)
  have ovw5 := ovw4.keep (SameAt.of_below b5)
  have ovc5 := ovc4.keep (SameAt.of_below b5)
  clear B4 b5 ovw4 ovc4
  go_wp2_with fail
  refine (implLearnedAll_any w5 vc vd a b (ovc5.rd) (ovd5.rd)).mono ?_
  rintro e w6 ⟨vg, rfl, ovg6, b6⟩
  rw [ht]
  have z6 := b6.size
  have hvg : ∀ g, vg.ownBlock = some g → g < w6.heap.size := fun g hg => (ovg6.ge g hg).2
  have B6 := below_step B5 b6 (by omega)
  have ovw6 := ovw5.keep (SameAt.of_below b6)
  have ovc6 := ovc5.keep (SameAt.of_below b6)
  have ovd6 := ovd5.keep b6
  clear B5 b6 ovw5 ovc5 ovd5
  cases t
  all_goals
    go_wp2_with fail
    refine (eqIntS_any w6 vg vw _ _ (ovg6.rd) (ovw6.rd)).mono ?_
    rintro e w' ⟨q7, rfl, rfl⟩
    rw [decide_self]
    have z7 : w6.heap.size ≤ (w6.drewN q7).heap.size := Nat.le_refl _
    have B7 : Below w.heap.size w (w6.drewN q7) := below_drewN B6 q7
    have ovw7 : IOwn (w6.drewN q7) _ vw _ := ovw6
    have ovc7 : IOwn (w6.drewN q7) _ vc _ := ovc6
    have ovd7 : SUp _ (w6.drewN q7) _ vd _ := ovd6
    have ovg7 : IOwn (w6.drewN q7) _ vg _ := ovg6
    clear B6 ovw6 ovc6 ovd6 ovg6
    generalize w6.drewN q7 = w7 at *
    go_wp2_with fail
    refine (toIntS_any w7 _ a (HVa.out.keep (SameAt.of_below B7)) hna).mono ?_
    rintro e w8 ⟨ve, rfl, ove8, b8⟩
    have z8 := b8.size
    have hve : ∀ g, ve.ownBlock = some g → g < w8.heap.size := fun g hg => (ove8.ge g hg).2
    have B8 := below_step B7 b8 (by omega)
    have ovw8 := ovw7.keep (SameAt.of_below b8)
    have ovc8 := ovc7.keep (SameAt.of_below b8)
    have ovd8 := ovd7.keep b8
    have ovg8 := ovg7.keep (SameAt.of_below b8)
    clear B7 b8 ovw7 ovc7 ovd7 ovg7
    go_wp2_with fail
    refine (eqIntS_any w8 vc ve _ _ (ovc8.rd) (ove8.rd)).mono ?_
    rintro e w' ⟨q9, rfl, rfl⟩
    rw [decide_self]
    have z9 : w8.heap.size ≤ (w8.drewN q9).heap.size := Nat.le_refl _
    have B9 : Below w.heap.size w (w8.drewN q9) := below_drewN B8 q9
    have ovw9 : IOwn (w8.drewN q9) _ vw _ := ovw8
    have ovc9 : IOwn (w8.drewN q9) _ vc _ := ovc8
    have ovd9 : SUp _ (w8.drewN q9) _ vd _ := ovd8
    have ovg9 : IOwn (w8.drewN q9) _ vg _ := ovg8
    have ove9 : IOwn (w8.drewN q9) _ ve _ := ove8
    clear B8 ovw8 ovc8 ovd8 ovg8 ove8
    generalize w8.drewN q9 = w9 at *
    clear ove9 hve
    go_wp2_with fail
    refine (toIntSS_any w9 _ b (HVb.out.below B9) hnb HNb.out).mono ?_
    rintro e w10 ⟨vf, rfl, ovf10, b10⟩
    have ovf10 := ovf10.up
    have z10 := b10.size
    have hvf : ∀ g, vf.ownBlock = some g → g < w10.heap.size := fun g hg => (ovf10.ge g hg).2
    have B10 := below_step B9 b10 (by omega)
    have ovw10 := ovw9.keep (SameAt.of_below b10)
    have ovc10 := ovc9.keep (SameAt.of_below b10)
    have ovd10 := ovd9.keep b10
    have ovg10 := ovg9.keep (SameAt.of_below b10)
    clear B9 b10 ovw9 ovc9 ovd9 ovg9
    go_wp2_with fail
    refine (eqIntSS_any w10 vd vf _ _ (ovd10.rd) (ovf10.rd)).mono ?_
    rintro e w11 ⟨rfl, b11⟩
    rw [show ∀ x : List (List Int), decide (x = x) = true from fun x => by simp]
    have z11 := b11.size
    have B11 := below_step B10 b11 (by omega)
    have ovw11 := ovw10.keep (SameAt.of_below b11)
    have ovc11 := ovc10.keep (SameAt.of_below b11)
    have ovd11 := ovd10.keep b11
    have ovg11 := ovg10.keep (SameAt.of_below b11)
    have ovf11 := ovf10.keep b11
    clear B10 b11 ovw10 ovc10 ovd10 ovg10 ovf10
    clear ovf11 hvf
    go_wp2_with fail
    refine (markIntS_any w11 _ (1) vc _ ovc11 hna (by omega) (by omega)).mono ?_
    rintro e w12 ⟨rfl, ovc12, g12, y12⟩
    have z12 : w11.heap.size ≤ w12.heap.size := by omega
    have ovw12 := ovw11.keep (SameAt.of_grown g12 (own_far ovc11 (fun g hg => by have := hvw g hg; omega)))
    have ovd12 := ovd11.grown g12 (fun g hg => by have := hvc g hg; omega)
    have ovg12 := ovg11.keep (SameAt.of_grown g12 (own_far' ovg11 (fun g hg => by have := hvc g hg; omega)))
    have B12 := below_grown B11 g12 ovc11 (by omega) (by omega)
    clear B11 ovc11 g12 ovw11 ovd11 ovg11
    clear ovc12 hvc
    go_wp2_with fail
    refine (markIntSS_any w12 w4.heap.size w5.heap.size (1 + (a.length : Int)) _ b ovd12 (by omega) hTb (by omega) (by omega)).mono ?_
    rintro e w13 ⟨rfl, f13⟩
    have y13 := f13.2.1
    have z13 : w12.heap.size ≤ w13.heap.size := by omega
    have ovw13 := ovw12.fenced f13 (.inr (fun g hg => by have := hvw g hg; omega))
    have ovg13 := ovg12.fenced f13 (.inl (by omega))
    have B13 := B12.trans (f13.1.mono (by omega))
    clear B12 ovd12 ovw12 ovg12 hvd
    go_wp2_with fail
    refine (eqIntS_any w13 vg vw _ _ (ovg13.rd) (ovw13.rd)).mono ?_
    rintro e w' ⟨q14, rfl, rfl⟩
    rw [decide_self]
    have z14 : w13.heap.size ≤ (w13.drewN q14).heap.size := Nat.le_refl _
    have B14 : Below w.heap.size w (w13.drewN q14) := below_drewN B13 q14
    have ovw14 : IOwn (w13.drewN q14) _ vw _ := ovw13
    have ovg14 : IOwn (w13.drewN q14) _ vg _ := ovg13
    clear B13 ovw13 ovg13
    generalize w13.drewN q14 = w14 at *
    go_wp2_with fail
    refine (markIntS_any w14 _ (1) vg _ ovg14 (by omega) (by omega) (by omega)).mono ?_
    rintro e w15 ⟨rfl, ovg15, g15, y15⟩
    have z15 : w14.heap.size ≤ w15.heap.size := by omega
    have ovw15 := ovw14.keep (SameAt.of_grown g15 (own_far ovg14 (fun g hg => by have := hvw g hg; omega)))
    have B15 := below_grown B14 g15 ovg14 (by omega) (by omega)
    clear B14 ovg14 g15 ovw14
    go_wp2_with fail
    refine (heldIntS_any w15 (1) vg _ (ovg15.rd) (by omega) (by omega) (by omega)).mono ?_
    rintro e w' ⟨rfl, rfl⟩
    go_wp2_with fail
    refine (toIntS_any w15 _ a (HVa.out.keep (SameAt.of_below B15)) hna).mono ?_
    rintro e w16 ⟨vh, rfl, ovh16, b16⟩
    have z16 := b16.size
    have hvh : ∀ g, vh.ownBlock = some g → g < w16.heap.size := fun g hg => (ovh16.ge g hg).2
    have B16 := below_step B15 b16 (by omega)
    have ovw16 := ovw15.keep (SameAt.of_below b16)
    have ovg16 := ovg15.keep (SameAt.of_below b16)
    clear B15 b16 ovw15 ovg15
    go_wp2_with fail
    refine (toIntSS_any w16 _ b (HVb.out.below B16) hnb HNb.out).mono ?_
    rintro e w17 ⟨vi, rfl, ovi17, b17⟩
    have ovi17 := ovi17.up
    have z17 := b17.size
    have hvi : ∀ g, vi.ownBlock = some g → g < w17.heap.size := fun g hg => (ovi17.ge g hg).2
    have B17 := below_step B16 b17 (by omega)
    have ovw17 := ovw16.keep (SameAt.of_below b17)
    have ovg17 := ovg16.keep (SameAt.of_below b17)
    have ovh17 := ovh16.keep (SameAt.of_below b17)
    clear B16 b17 ovw16 ovg16 ovh16
    go_wp2_with fail
    refine (implLearnedAll_any w17 vh vi a b (ovh17.rd) (ovi17.rd)).mono ?_
    rintro e w18 ⟨vj, rfl, ovj18, b18⟩
    rw [ht]
    have z18 := b18.size
    have hvj : ∀ g, vj.ownBlock = some g → g < w18.heap.size := fun g hg => (ovj18.ge g hg).2
    have B18 := below_step B17 b18 (by omega)
    have ovw18 := ovw17.keep (SameAt.of_below b18)
    have ovg18 := ovg17.keep (SameAt.of_below b18)
    have ovh18 := ovh17.keep (SameAt.of_below b18)
    have ovi18 := ovi17.keep b18
    clear B17 b18 ovw17 ovg17 ovh17 ovi17
    clear ovh18 hvh
    clear ovi18 hvi
    go_wp2_with fail
    refine (eqIntS_any w18 vj vw _ _ (ovj18.rd) (ovw18.rd)).mono ?_
    rintro e w' ⟨q19, rfl, rfl⟩
    rw [decide_self]
    have z19 : w18.heap.size ≤ (w18.drewN q19).heap.size := Nat.le_refl _
    have B19 : Below w.heap.size w (w18.drewN q19) := below_drewN B18 q19
    have ovw19 : IOwn (w18.drewN q19) _ vw _ := ovw18
    have ovg19 : IOwn (w18.drewN q19) _ vg _ := ovg18
    have ovj19 : IOwn (w18.drewN q19) _ vj _ := ovj18
    clear B18 ovw18 ovg18 ovj18
    generalize w18.drewN q19 = w19 at *
    go_wp2_with fail
    refine (heldIntS_any w19 (1) vg _ (ovg19.rd) (by omega) (by omega) (by omega)).mono ?_
    rintro e w' ⟨rfl, rfl⟩
    go_wp2_with fail
    go_ret
    exact ⟨rfl, B19⟩

theorem FnExactLearnedAll_walk (a0 : Option Addr) (len0 cap0 : Nat) (z0 : List Int) (v1 : Value) (z1 : List (List Int)) (w : World) (w0 : IsRowC .i64 w a0 len0 cap0 z0) (w1 : SRd w v1 z1) :
    Calls Try.prog 14 #[.slice a0 len0 cap0, v1] w fun e w' => e = .returned (.bool true) ∧ Below w.heap.size w w' := by
  obtain ⟨xs0, h0⟩ := ird_of_row w0
  exact exactLearnedAll_any w _ xs0 v1 z1 h0 w1

end Go.Proofs.Ytbjmhbkpeglpkaa
