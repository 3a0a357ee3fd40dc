/- The walks of the exact laws of chapter 11. Conditions: stated at each. (gen_fx.py) -/
import Derived.Test.YtnkgnhnggjoglaaFp
namespace Go.Proofs.Ytnkgnhnggjoglaa
open Go.RowKit
set_option linter.unusedVariables false

theorem seenR_len (W : Int) (ss : List Int) : (seenR W ss).length ≤ 4 := by
  unfold seenR
  split
  · next h => have := ((seenB_iff W ss).1 h).1; rw [shr_len]; omega
  · simp

theorem SOwn.keep {w w' : World} {base : Nat} {v : Value} {zss : List (List Int)} (h : SOwn w base v zss) (hb : Below w.heap.size w w') : SOwn w' base v zss := h.below hb

theorem SOwn.ge {w : World} {base : Nat} {v : Value} {zss : List (List Int)} (h : SOwn w base v zss) : ∀ g, v.ownBlock = some g → base ≤ g ∧ g < w.heap.size := by
  obtain ⟨us, -, hg, -⟩ := h
  exact hg.ge

set_option maxHeartbeats 4000000 in
theorem exactScoreOf_any (w : World) (vm : Value) (m : List Int) (x : Int) (hvm : IRd w vm m) :
    Calls Try.prog 10 #[vm, .int .i64 x] w fun e w' => e = .returned (.bool true) ∧ Below w.heap.size w w' := by
  obtain ⟨Am, cm, rfl, hlm, hmm, -⟩ := id hvm
  have HVm := Lib.hid hvm
  clear hvm
  by_cases hbigm : 1048576 < m.length
  · have hbigm' : (1048576 : Int) < (m.length : Int) := by omega
    go_enter Try.func10, Try.ntmps10
    go_wp2_with fail
    go_ret
    exact ⟨rfl, Below.refl _ _⟩
  have hnm : m.length ≤ 1048576 := by omega
  have hnm' : (m.length : Int) ≤ 1048576 := by omega
  obtain ⟨t, ht⟩ : ∃ t, scR m x = t := ⟨_, rfl⟩
  go_enter Try.func10, Try.ntmps10
  go_wp2_with fail
  have B0 : Below w.heap.size w w := Below.refl _ _
  have z0 : w.heap.size ≤ w.heap.size := Nat.le_refl _
  go_wp2_with fail
  refine (toIntS_any w _ m (HVm.out.keep (SameAt.of_below B0)) hnm).mono ?_
  rintro e w1 ⟨va, rfl, ova1, b1⟩
  have z1 := b1.size
  have hva : ∀ g, va.ownBlock = some g → g < w1.heap.size := fun g hg => (ova1.ge g hg).2
  have B1 := below_step B0 b1 (by omega)
  clear B0 b1
  go_wp2_with fail
  refine (specScoreOf_any w1 va m x (ova1.rd)).mono ?_
  rintro e w' ⟨rfl, rfl⟩
  rw [ht]
  clear ova1 hva
  go_wp2_with fail
  refine (toIntS_any w1 _ m (HVm.out.keep (SameAt.of_below B1)) hnm).mono ?_
  rintro e w2 ⟨vc, rfl, ovc2, b2⟩
  have z2 := b2.size
  have hvc : ∀ g, vc.ownBlock = some g → g < w2.heap.size := fun g hg => (ovc2.ge g hg).2
  have B2 := below_step B1 b2 (by omega)
  clear B1 b2
  go_wp2_with fail
  refine (implScoreOf_any w2 vc m x (ovc2.rd)).mono ?_
  rintro e w3 ⟨rfl, b3⟩
  rw [ht]
  have z3 := b3.size
  have B3 := below_step B2 b3 (by omega)
  have ovc3 := ovc2.keep (SameAt.of_below b3)
  clear B2 b3 ovc2
  go_wp2_with fail
  refine (toIntS_any w3 _ m (HVm.out.keep (SameAt.of_below B3)) hnm).mono ?_
  rintro e w4 ⟨ve, rfl, ove4, b4⟩
  have z4 := b4.size
  have hve : ∀ g, ve.ownBlock = some g → g < w4.heap.size := fun g hg => (ove4.ge g hg).2
  have B4 := below_step B3 b4 (by omega)
  have ovc4 := ovc3.keep (SameAt.of_below b4)
  clear B3 b4 ovc3
  go_wp2_with fail
  refine (eqIntS_any w4 vc ve _ _ (ovc4.rd) (ove4.rd)).mono ?_
  rintro e w' ⟨q5, rfl, rfl⟩
  rw [decide_self]
  have z5 : w4.heap.size ≤ (w4.drewN q5).heap.size := Nat.le_refl _
  have B5 : Below w.heap.size w (w4.drewN q5) := below_drewN B4 q5
  have ovc5 : IOwn (w4.drewN q5) _ vc _ := ovc4
  have ove5 : IOwn (w4.drewN q5) _ ve _ := ove4
  clear B4 ovc4 ove4
  generalize w4.drewN q5 = w5 at *
  go_wp2_with fail
  go_ret
  exact ⟨rfl, B5⟩

theorem FnExactScoreOf_walk (a0 : Option Addr) (len0 cap0 : Nat) (z0 : List Int) (a1 : Int) (w : World) (w0 : IsRowC .i64 w a0 len0 cap0 z0) (w1 : (Lit.int .i64 a1).wf = true) :
    Calls Try.prog 10 #[.slice a0 len0 cap0, .int .i64 a1] w fun e w' => e = .returned (.bool true) ∧ Below w.heap.size w w' := by
  obtain ⟨xs0, h0⟩ := ird_of_row w0
  exact exactScoreOf_any w _ xs0 a1 h0

set_option maxHeartbeats 4000000 in
theorem exactExpectedScore_any (w : World) (va : Value) (a : List Int) (vb : Value) (b : List Int) (hva : IRd w va a) (hvb : IRd w vb b) :
    Calls Try.prog 11 #[va, vb] w fun e w' => e = .returned (.bool true) ∧ Below w.heap.size w w' := by
  obtain ⟨Aa, ca, rfl, hla, hma, -⟩ := id hva
  have HVa := Lib.hid hva
  clear hva
  obtain ⟨Ab, cb, rfl, hlb, hmb, -⟩ := id hvb
  have HVb := Lib.hid hvb
  clear hvb
  by_cases hbiga : 1048576 < a.length
  · have hbiga' : (1048576 : Int) < (a.length : Int) := by omega
    go_enter Try.func11, Try.ntmps11
    go_wp2_with fail
    go_ret
    exact ⟨rfl, Below.refl _ _⟩
  by_cases hbigb : 1048576 < b.length
  · have hbigb' : (1048576 : Int) < (b.length : Int) := by omega
    have hsa' : (a.length : Int) ≤ 1048576 := by omega
    go_enter Try.func11, Try.ntmps11
    go_wp2_with fail
    go_ret
    exact ⟨rfl, Below.refl _ _⟩
  have hna : a.length ≤ 1048576 := by omega
  have hna' : (a.length : Int) ≤ 1048576 := by omega
  have hnb : b.length ≤ 1048576 := by omega
  have hnb' : (b.length : Int) ≤ 1048576 := by omega
  obtain ⟨t, ht⟩ : ∃ t, expR a b = t := ⟨_, rfl⟩
  go_enter Try.func11, Try.ntmps11
  go_wp2_with fail
  have B0 : Below w.heap.size w w := Below.refl _ _
  have z0 : w.heap.size ≤ w.heap.size := Nat.le_refl _
  go_wp2_with fail
  refine (toIntS_any w _ a (HVa.out.keep (SameAt.of_below B0)) hna).mono ?_
  rintro e w1 ⟨va, rfl, ova1, b1⟩
  have z1 := b1.size
  have hva : ∀ g, va.ownBlock = some g → g < w1.heap.size := fun g hg => (ova1.ge g hg).2
  have B1 := below_step B0 b1 (by omega)
  clear B0 b1
  go_wp2_with fail
  refine (toIntS_any w1 _ b (HVb.out.keep (SameAt.of_below B1)) hnb).mono ?_
  rintro e w2 ⟨vb, rfl, ovb2, b2⟩
  have z2 := b2.size
  have hvb : ∀ g, vb.ownBlock = some g → g < w2.heap.size := fun g hg => (ovb2.ge g hg).2
  have B2 := below_step B1 b2 (by omega)
  have ova2 := ova1.keep (SameAt.of_below b2)
  clear B1 b2 ova1
  go_wp2_with fail
  refine (specExpectedScore_any w2 va vb a b (ova2.rd) (ovb2.rd)).mono ?_
  rintro e w3 ⟨rfl, b3⟩
  rw [ht]
  have z3 := b3.size
  have B3 := below_step B2 b3 (by omega)
  have ova3 := ova2.keep (SameAt.of_below b3)
  have ovb3 := ovb2.keep (SameAt.of_below b3)
  clear B2 b3 ova2 ovb2
  clear ova3 hva
  clear ovb3 hvb
  go_wp2_with fail
  refine (toIntS_any w3 _ a (HVa.out.keep (SameAt.of_below B3)) hna).mono ?_
  rintro e w4 ⟨vc, rfl, ovc4, b4⟩
  have z4 := b4.size
  have hvc : ∀ g, vc.ownBlock = some g → g < w4.heap.size := fun g hg => (ovc4.ge g hg).2
  have B4 := below_step B3 b4 (by omega)
  clear B3 b4
  go_wp2_with fail
  refine (toIntS_any w4 _ b (HVb.out.keep (SameAt.of_below B4)) hnb).mono ?_
  rintro e w5 ⟨vd, rfl, ovd5, b5⟩
  have z5 := b5.size
  have hvd : ∀ g, vd.ownBlock = some g → g < w5.heap.size := fun g hg => (ovd5.ge g hg).2
  have B5 := below_step B4 b5 (by omega)
  have ovc5 := ovc4.keep (SameAt.of_below b5)
  clear B4 b5 ovc4
  go_wp2_with fail
  refine (implExpectedScore_any w5 vc vd a b (ovc5.rd) (ovd5.rd)).mono ?_
  rintro e w6 ⟨rfl, b6⟩
  rw [ht]
  have z6 := b6.size
  have B6 := below_step B5 b6 (by omega)
  have ovc6 := ovc5.keep (SameAt.of_below b6)
  have ovd6 := ovd5.keep (SameAt.of_below b6)
  clear B5 b6 ovc5 ovd5
  go_wp2_with fail
  refine (toIntS_any w6 _ a (HVa.out.keep (SameAt.of_below B6)) hna).mono ?_
  rintro e w7 ⟨ve, rfl, ove7, b7⟩
  have z7 := b7.size
  have hve : ∀ g, ve.ownBlock = some g → g < w7.heap.size := fun g hg => (ove7.ge g hg).2
  have B7 := below_step B6 b7 (by omega)
  have ovc7 := ovc6.keep (SameAt.of_below b7)
  have ovd7 := ovd6.keep (SameAt.of_below b7)
  clear B6 b7 ovc6 ovd6
  go_wp2_with fail
  refine (eqIntS_any w7 vc ve _ _ (ovc7.rd) (ove7.rd)).mono ?_
  rintro e w' ⟨q8, rfl, rfl⟩
  rw [decide_self]
  have z8 : w7.heap.size ≤ (w7.drewN q8).heap.size := Nat.le_refl _
  have B8 : Below w.heap.size w (w7.drewN q8) := below_drewN B7 q8
  have ovc8 : IOwn (w7.drewN q8) _ vc _ := ovc7
  have ovd8 : IOwn (w7.drewN q8) _ vd _ := ovd7
  have ove8 : IOwn (w7.drewN q8) _ ve _ := ove7
  clear B7 ovc7 ovd7 ove7
  generalize w7.drewN q8 = w8 at *
  clear ove8 hve
  go_wp2_with fail
  refine (toIntS_any w8 _ b (HVb.out.keep (SameAt.of_below B8)) hnb).mono ?_
  rintro e w9 ⟨vf, rfl, ovf9, b9⟩
  have z9 := b9.size
  have hvf : ∀ g, vf.ownBlock = some g → g < w9.heap.size := fun g hg => (ovf9.ge g hg).2
  have B9 := below_step B8 b9 (by omega)
  have ovc9 := ovc8.keep (SameAt.of_below b9)
  have ovd9 := ovd8.keep (SameAt.of_below b9)
  clear B8 b9 ovc8 ovd8
  go_wp2_with fail
  refine (eqIntS_any w9 vd vf _ _ (ovd9.rd) (ovf9.rd)).mono ?_
  rintro e w' ⟨q10, rfl, rfl⟩
  rw [decide_self]
  have z10 : w9.heap.size ≤ (w9.drewN q10).heap.size := Nat.le_refl _
  have B10 : Below w.heap.size w (w9.drewN q10) := below_drewN B9 q10
  have ovc10 : IOwn (w9.drewN q10) _ vc _ := ovc9
  have ovd10 : IOwn (w9.drewN q10) _ vd _ := ovd9
  have ovf10 : IOwn (w9.drewN q10) _ vf _ := ovf9
  clear B9 ovc9 ovd9 ovf9
  generalize w9.drewN q10 = w10 at *
  go_wp2_with fail
  go_ret
  exact ⟨rfl, B10⟩

theorem FnExactExpectedScore_walk (a0 : Option Addr) (len0 cap0 : Nat) (z0 : List Int) (a1 : Option Addr) (len1 cap1 : Nat) (z1 : List Int) (w : World) (w0 : IsRowC .i64 w a0 len0 cap0 z0) (w1 : IsRowC .i64 w a1 len1 cap1 z1) :
    Calls Try.prog 11 #[.slice a0 len0 cap0, .slice a1 len1 cap1] w fun e w' => e = .returned (.bool true) ∧ Below w.heap.size w w' := by
  obtain ⟨xs0, h0⟩ := ird_of_row w0
  obtain ⟨xs1, h1⟩ := ird_of_row w1
  exact exactExpectedScore_any w _ xs0 _ xs1 h0 h1

set_option maxHeartbeats 4000000 in
theorem exactFarApart_any (w : World) (va : Value) (a : List Int) (vb : Value) (b : List Int) (hva : IRd w va a) (hvb : IRd w vb b) :
    Calls Try.prog 12 #[va, vb] w fun e w' => e = .returned (.bool true) ∧ Below w.heap.size w w' := by
  obtain ⟨Aa, ca, rfl, hla, hma, -⟩ := id hva
  have HVa := Lib.hid hva
  clear hva
  obtain ⟨Ab, cb, rfl, hlb, hmb, -⟩ := id hvb
  have HVb := Lib.hid hvb
  clear hvb
  by_cases hbiga : 1048576 < a.length
  · have hbiga' : (1048576 : Int) < (a.length : Int) := by omega
    go_enter Try.func12, Try.ntmps12
    go_wp2_with fail
    go_ret
    exact ⟨rfl, Below.refl _ _⟩
  by_cases hbigb : 1048576 < b.length
  · have hbigb' : (1048576 : Int) < (b.length : Int) := by omega
    have hsa' : (a.length : Int) ≤ 1048576 := by omega
    go_enter Try.func12, Try.ntmps12
    go_wp2_with fail
    go_ret
    exact ⟨rfl, Below.refl _ _⟩
  have hna : a.length ≤ 1048576 := by omega
  have hna' : (a.length : Int) ≤ 1048576 := by omega
  have hnb : b.length ≤ 1048576 := by omega
  have hnb' : (b.length : Int) ≤ 1048576 := by omega
  obtain ⟨t, ht⟩ : ∃ t, farR a b = t := ⟨_, rfl⟩
  go_enter Try.func12, Try.ntmps12
  go_wp2_with fail
  have B0 : Below w.heap.size w w := Below.refl _ _
  have z0 : w.heap.size ≤ w.heap.size := Nat.le_refl _
  go_wp2_with fail
  refine (toIntS_any w _ a (HVa.out.keep (SameAt.of_below B0)) hna).mono ?_
  rintro e w1 ⟨va, rfl, ova1, b1⟩
  have z1 := b1.size
  have hva : ∀ g, va.ownBlock = some g → g < w1.heap.size := fun g hg => (ova1.ge g hg).2
  have B1 := below_step B0 b1 (by omega)
  clear B0 b1
  go_wp2_with fail
  refine (toIntS_any w1 _ b (HVb.out.keep (SameAt.of_below B1)) hnb).mono ?_
  rintro e w2 ⟨vb, rfl, ovb2, b2⟩
  have z2 := b2.size
  have hvb : ∀ g, vb.ownBlock = some g → g < w2.heap.size := fun g hg => (ovb2.ge g hg).2
  have B2 := below_step B1 b2 (by omega)
  have ova2 := ova1.keep (SameAt.of_below b2)
  clear B1 b2 ova1
  go_wp2_with fail
  refine (specFarApart_any w2 va vb a b (ova2.rd) (ovb2.rd)).mono ?_
  rintro e w3 ⟨rfl, b3⟩
  rw [ht]
  have z3 := b3.size
  have B3 := below_step B2 b3 (by omega)
  have ova3 := ova2.keep (SameAt.of_below b3)
  have ovb3 := ovb2.keep (SameAt.of_below b3)
  clear B2 b3 ova2 ovb2
  clear ova3 hva
  clear ovb3 hvb
  go_wp2_with fail
  refine (toIntS_any w3 _ a (HVa.out.keep (SameAt.of_below B3)) hna).mono ?_
  rintro e w4 ⟨vc, rfl, ovc4, b4⟩
  have z4 := b4.size
  have hvc : ∀ g, vc.ownBlock = some g → g < w4.heap.size := fun g hg => (ovc4.ge g hg).2
  have B4 := below_step B3 b4 (by omega)
  clear B3 b4
  go_wp2_with fail
  refine (toIntS_any w4 _ b (HVb.out.keep (SameAt.of_below B4)) hnb).mono ?_
  rintro e w5 ⟨vd, rfl, ovd5, b5⟩
  have z5 := b5.size
  have hvd : ∀ g, vd.ownBlock = some g → g < w5.heap.size := fun g hg => (ovd5.ge g hg).2
  have B5 := below_step B4 b5 (by omega)
  have ovc5 := ovc4.keep (SameAt.of_below b5)
  clear B4 b5 ovc4
  go_wp2_with fail
  refine (implFarApart_any w5 vc vd a b (ovc5.rd) (ovd5.rd)).mono ?_
  rintro e w6 ⟨rfl, b6⟩
  rw [ht]
  have z6 := b6.size
  have B6 := below_step B5 b6 (by omega)
  have ovc6 := ovc5.keep (SameAt.of_below b6)
  have ovd6 := ovd5.keep (SameAt.of_below b6)
  clear B5 b6 ovc5 ovd5
  go_wp2_with fail
  refine (toIntS_any w6 _ a (HVa.out.keep (SameAt.of_below B6)) hna).mono ?_
  rintro e w7 ⟨ve, rfl, ove7, b7⟩
  have z7 := b7.size
  have hve : ∀ g, ve.ownBlock = some g → g < w7.heap.size := fun g hg => (ove7.ge g hg).2
  have B7 := below_step B6 b7 (by omega)
  have ovc7 := ovc6.keep (SameAt.of_below b7)
  have ovd7 := ovd6.keep (SameAt.of_below b7)
  clear B6 b7 ovc6 ovd6
  go_wp2_with fail
  refine (eqIntS_any w7 vc ve _ _ (ovc7.rd) (ove7.rd)).mono ?_
  rintro e w' ⟨q8, rfl, rfl⟩
  rw [decide_self]
  have z8 : w7.heap.size ≤ (w7.drewN q8).heap.size := Nat.le_refl _
  have B8 : Below w.heap.size w (w7.drewN q8) := below_drewN B7 q8
  have ovc8 : IOwn (w7.drewN q8) _ vc _ := ovc7
  have ovd8 : IOwn (w7.drewN q8) _ vd _ := ovd7
  have ove8 : IOwn (w7.drewN q8) _ ve _ := ove7
  clear B7 ovc7 ovd7 ove7
  generalize w7.drewN q8 = w8 at *
  clear ove8 hve
  go_wp2_with fail
  refine (toIntS_any w8 _ b (HVb.out.keep (SameAt.of_below B8)) hnb).mono ?_
  rintro e w9 ⟨vf, rfl, ovf9, b9⟩
  have z9 := b9.size
  have hvf : ∀ g, vf.ownBlock = some g → g < w9.heap.size := fun g hg => (ovf9.ge g hg).2
  have B9 := below_step B8 b9 (by omega)
  have ovc9 := ovc8.keep (SameAt.of_below b9)
  have ovd9 := ovd8.keep (SameAt.of_below b9)
  clear B8 b9 ovc8 ovd8
  go_wp2_with fail
  refine (eqIntS_any w9 vd vf _ _ (ovd9.rd) (ovf9.rd)).mono ?_
  rintro e w' ⟨q10, rfl, rfl⟩
  rw [decide_self]
  have z10 : w9.heap.size ≤ (w9.drewN q10).heap.size := Nat.le_refl _
  have B10 : Below w.heap.size w (w9.drewN q10) := below_drewN B9 q10
  have ovc10 : IOwn (w9.drewN q10) _ vc _ := ovc9
  have ovd10 : IOwn (w9.drewN q10) _ vd _ := ovd9
  have ovf10 : IOwn (w9.drewN q10) _ vf _ := ovf9
  clear B9 ovc9 ovd9 ovf9
  generalize w9.drewN q10 = w10 at *
  go_wp2_with fail
  go_ret
  exact ⟨rfl, B10⟩

theorem FnExactFarApart_walk (a0 : Option Addr) (len0 cap0 : Nat) (z0 : List Int) (a1 : Option Addr) (len1 cap1 : Nat) (z1 : List Int) (w : World) (w0 : IsRowC .i64 w a0 len0 cap0 z0) (w1 : IsRowC .i64 w a1 len1 cap1 z1) :
    Calls Try.prog 12 #[.slice a0 len0 cap0, .slice a1 len1 cap1] w fun e w' => e = .returned (.bool true) ∧ Below w.heap.size w w' := by
  obtain ⟨xs0, h0⟩ := ird_of_row w0
  obtain ⟨xs1, h1⟩ := ird_of_row w1
  exact exactFarApart_any w _ xs0 _ xs1 h0 h1

set_option maxHeartbeats 4000000 in
theorem exactTotalScore_any (w : World) (va : Value) (a : List Int) (vb : Value) (b : List Int) (hva : IRd w va a) (hvb : IRd w vb b) :
    Calls Try.prog 13 #[va, vb] w fun e w' => e = .returned (.bool true) ∧ Below w.heap.size w w' := by
  obtain ⟨Aa, ca, rfl, hla, hma, -⟩ := id hva
  have HVa := Lib.hid hva
  clear hva
  obtain ⟨Ab, cb, rfl, hlb, hmb, -⟩ := id hvb
  have HVb := Lib.hid hvb
  clear hvb
  by_cases hbiga : 1048576 < a.length
  · have hbiga' : (1048576 : Int) < (a.length : Int) := by omega
    go_enter Try.func13, Try.ntmps13
    go_wp2_with fail
    go_ret
    exact ⟨rfl, Below.refl _ _⟩
  by_cases hbigb : 1048576 < b.length
  · have hbigb' : (1048576 : Int) < (b.length : Int) := by omega
    have hsa' : (a.length : Int) ≤ 1048576 := by omega
    go_enter Try.func13, Try.ntmps13
    go_wp2_with fail
    go_ret
    exact ⟨rfl, Below.refl _ _⟩
  have hna : a.length ≤ 1048576 := by omega
  have hna' : (a.length : Int) ≤ 1048576 := by omega
  have hnb : b.length ≤ 1048576 := by omega
  have hnb' : (b.length : Int) ≤ 1048576 := by omega
  obtain ⟨t, ht⟩ : ∃ t, totR a b = t := ⟨_, rfl⟩
  go_enter Try.func13, Try.ntmps13
  go_wp2_with fail
  have B0 : Below w.heap.size w w := Below.refl _ _
  have z0 : w.heap.size ≤ w.heap.size := Nat.le_refl _
  go_wp2_with fail
  refine (toIntS_any w _ a (HVa.out.keep (SameAt.of_below B0)) hna).mono ?_
  rintro e w1 ⟨va, rfl, ova1, b1⟩
  have z1 := b1.size
  have hva : ∀ g, va.ownBlock = some g → g < w1.heap.size := fun g hg => (ova1.ge g hg).2
  have B1 := below_step B0 b1 (by omega)
  clear B0 b1
  go_wp2_with fail
  refine (toIntS_any w1 _ b (HVb.out.keep (SameAt.of_below B1)) hnb).mono ?_
  rintro e w2 ⟨vb, rfl, ovb2, b2⟩
  have z2 := b2.size
  have hvb : ∀ g, vb.ownBlock = some g → g < w2.heap.size := fun g hg => (ovb2.ge g hg).2
  have B2 := below_step B1 b2 (by omega)
  have ova2 := ova1.keep (SameAt.of_below b2)
  clear B1 b2 ova1
  go_wp2_with fail
  refine (specTotalScore_any w2 va vb a b (ova2.rd) (ovb2.rd)).mono ?_
  rintro e w' ⟨rfl, rfl⟩
  rw [ht]
  clear ova2 hva
  clear ovb2 hvb
  go_wp2_with fail
  refine (toIntS_any w2 _ a (HVa.out.keep (SameAt.of_below B2)) hna).mono ?_
  rintro e w3 ⟨vc, rfl, ovc3, b3⟩
  have z3 := b3.size
  have hvc : ∀ g, vc.ownBlock = some g → g < w3.heap.size := fun g hg => (ovc3.ge g hg).2
  have B3 := below_step B2 b3 (by omega)
  clear B2 b3
  go_wp2_with fail
  refine (toIntS_any w3 _ b (HVb.out.keep (SameAt.of_below B3)) hnb).mono ?_
  rintro e w4 ⟨vd, rfl, ovd4, b4⟩
  have z4 := b4.size
  have hvd : ∀ g, vd.ownBlock = some g → g < w4.heap.size := fun g hg => (ovd4.ge g hg).2
  have B4 := below_step B3 b4 (by omega)
  have ovc4 := ovc3.keep (SameAt.of_below b4)
  clear B3 b4 ovc3
  go_wp2_with fail
  refine (implTotalScore_any w4 vc vd a b (ovc4.rd) (ovd4.rd)).mono ?_
  rintro e w5 ⟨rfl, b5⟩
  rw [ht]
  have z5 := b5.size
  have B5 := below_step B4 b5 (by omega)
  have ovc5 := ovc4.keep (SameAt.of_below b5)
  have ovd5 := ovd4.keep (SameAt.of_below b5)
  clear B4 b5 ovc4 ovd4
  go_wp2_with fail
  refine (toIntS_any w5 _ a (HVa.out.keep (SameAt.of_below B5)) hna).mono ?_
  rintro e w6 ⟨ve, rfl, ove6, b6⟩
  have z6 := b6.size
  have hve : ∀ g, ve.ownBlock = some g → g < w6.heap.size := fun g hg => (ove6.ge g hg).2
  have B6 := below_step B5 b6 (by omega)
  have ovc6 := ovc5.keep (SameAt.of_below b6)
  have ovd6 := ovd5.keep (SameAt.of_below b6)
  clear B5 b6 ovc5 ovd5
  go_wp2_with fail
  refine (eqIntS_any w6 vc ve _ _ (ovc6.rd) (ove6.rd)).mono ?_
  rintro e w' ⟨q7, rfl, rfl⟩
  rw [decide_self]
  have z7 : w6.heap.size ≤ (w6.drewN q7).heap.size := Nat.le_refl _
  have B7 : Below w.heap.size w (w6.drewN q7) := below_drewN B6 q7
  have ovc7 : IOwn (w6.drewN q7) _ vc _ := ovc6
  have ovd7 : IOwn (w6.drewN q7) _ vd _ := ovd6
  have ove7 : IOwn (w6.drewN q7) _ ve _ := ove6
  clear B6 ovc6 ovd6 ove6
  generalize w6.drewN q7 = w7 at *
  clear ove7 hve
  go_wp2_with fail
  refine (toIntS_any w7 _ b (HVb.out.keep (SameAt.of_below B7)) hnb).mono ?_
  rintro e w8 ⟨vf, rfl, ovf8, b8⟩
  have z8 := b8.size
  have hvf : ∀ g, vf.ownBlock = some g → g < w8.heap.size := fun g hg => (ovf8.ge g hg).2
  have B8 := below_step B7 b8 (by omega)
  have ovc8 := ovc7.keep (SameAt.of_below b8)
  have ovd8 := ovd7.keep (SameAt.of_below b8)
  clear B7 b8 ovc7 ovd7
  go_wp2_with fail
  refine (eqIntS_any w8 vd vf _ _ (ovd8.rd) (ovf8.rd)).mono ?_
  rintro e w' ⟨q9, rfl, rfl⟩
  rw [decide_self]
  have z9 : w8.heap.size ≤ (w8.drewN q9).heap.size := Nat.le_refl _
  have B9 : Below w.heap.size w (w8.drewN q9) := below_drewN B8 q9
  have ovc9 : IOwn (w8.drewN q9) _ vc _ := ovc8
  have ovd9 : IOwn (w8.drewN q9) _ vd _ := ovd8
  have ovf9 : IOwn (w8.drewN q9) _ vf _ := ovf8
  clear B8 ovc8 ovd8 ovf8
  generalize w8.drewN q9 = w9 at *
  go_wp2_with fail
  go_ret
  exact ⟨rfl, B9⟩

theorem FnExactTotalScore_walk (a0 : Option Addr) (len0 cap0 : Nat) (z0 : List Int) (a1 : Option Addr) (len1 cap1 : Nat) (z1 : List Int) (w : World) (w0 : IsRowC .i64 w a0 len0 cap0 z0) (w1 : IsRowC .i64 w a1 len1 cap1 z1) :
    Calls Try.prog 13 #[.slice a0 len0 cap0, .slice a1 len1 cap1] w fun e w' => e = .returned (.bool true) ∧ Below w.heap.size w w' := by
  obtain ⟨xs0, h0⟩ := ird_of_row w0
  obtain ⟨xs1, h1⟩ := ird_of_row w1
  exact exactTotalScore_any w _ xs0 _ xs1 h0 h1

set_option maxHeartbeats 4000000 in
theorem exactBestReport_any (w : World) (va : Value) (a : List Int) (vb : Value) (b : List (List Int)) (hva : IRd w va a) (hvb : SRd w vb b) :
    Calls Try.prog 14 #[va, vb] w fun e w' => e = .returned (.bool true) ∧ Below w.heap.size w w' := by
  obtain ⟨Aa, ca, rfl, hla, hma, -⟩ := id hva
  have HVa := Lib.hid hva
  clear hva
  obtain ⟨Ab, cb, rfl, hlb, hmb⟩ := hvb.form
  have HVb := Lib.hid hvb
  clear hvb
  by_cases hbiga : 1048576 < a.length
  · have hbiga' : (1048576 : Int) < (a.length : Int) := by omega
    go_enter Try.func14, Try.ntmps14
    go_wp2_with fail
    go_ret
    exact ⟨rfl, Below.refl _ _⟩
  have hna : a.length ≤ 1048576 := by omega
  have hna' : (a.length : Int) ≤ 1048576 := by omega
  obtain ⟨t, ht⟩ : ∃ t, bestR a b = t := ⟨_, rfl⟩
  go_enter Try.func14, Try.ntmps14
  go_wp2_with fail
  refine (szIntSS_any w _ b HVb.out).mono ?_
  rintro e w' ⟨nb, rfl, rfl, hszb⟩
  by_cases hng : nb < 0
  · go_wp2_with fail
    go_ret
    exact ⟨rfl, Below.refl _ _⟩
  obtain ⟨hnb, hNb, -⟩ := hszb (by omega)
  have hng' : 0 ≤ nb := by omega
  have HNb := Lib.hid hNb
  clear hNb hszb hng
  have B0 : Below w.heap.size w w := Below.refl _ _
  have z0 : w.heap.size ≤ w.heap.size := Nat.le_refl _
  go_wp2_with fail
  refine (toIntS_any w _ a (HVa.out.keep (SameAt.of_below B0)) hna).mono ?_
  rintro e w1 ⟨va, rfl, ova1, b1⟩
  have z1 := b1.size
  have hva : ∀ g, va.ownBlock = some g → g < w1.heap.size := fun g hg => (ova1.ge g hg).2
  have B1 := below_step B0 b1 (by omega)
  clear B0 b1
  go_wp2_with fail
  refine (toIntSS_any w1 _ b (HVb.out.below B1) hnb HNb.out).mono ?_
  rintro e w2 ⟨vb, rfl, ovb2, b2⟩
  have z2 := b2.size
  have hvb : ∀ g, vb.ownBlock = some g → g < w2.heap.size := fun g hg => (ovb2.ge g hg).2
  have B2 := below_step B1 b2 (by omega)
  have ova2 := ova1.keep (SameAt.of_below b2)
  clear B1 b2 ova1
  go_wp2_with fail
  refine (specBestReport_any w2 va vb a b (ova2.rd) (ovb2.rd)).mono ?_
  rintro e w3 ⟨rfl, b3⟩
  rw [ht]
  have z3 := b3.size
  have B3 := below_step B2 b3 (by omega)
  have ova3 := ova2.keep (SameAt.of_below b3)
  have ovb3 := ovb2.keep b3
  clear B2 b3 ova2 ovb2
  clear ova3 hva
  clear ovb3 hvb
  go_wp2_with fail
  refine (toIntS_any w3 _ a (HVa.out.keep (SameAt.of_below B3)) hna).mono ?_
  rintro e w4 ⟨vc, rfl, ovc4, b4⟩
  have z4 := b4.size
  have hvc : ∀ g, vc.ownBlock = some g → g < w4.heap.size := fun g hg => (ovc4.ge g hg).2
  have B4 := below_step B3 b4 (by omega)
  clear B3 b4
  go_wp2_with fail
  refine (toIntSS_any w4 _ b (HVb.out.below B4) hnb HNb.out).mono ?_
  rintro e w5 ⟨vd, rfl, ovd5, b5⟩
  have z5 := b5.size
  have hvd : ∀ g, vd.ownBlock = some g → g < w5.heap.size := fun g hg => (ovd5.ge g hg).2
  have B5 := below_step B4 b5 (by omega)
  have ovc5 := ovc4.keep (SameAt.of_below b5)
  clear B4 b5 ovc4
  go_wp2_with fail
  refine (implBestReport_any w5 vc vd a b (ovc5.rd) (ovd5.rd)).mono ?_
  rintro e w6 ⟨rfl, b6⟩
  rw [ht]
  have z6 := b6.size
  have B6 := below_step B5 b6 (by omega)
  have ovc6 := ovc5.keep (SameAt.of_below b6)
  have ovd6 := ovd5.keep b6
  clear B5 b6 ovc5 ovd5
  go_wp2_with fail
  refine (toIntS_any w6 _ a (HVa.out.keep (SameAt.of_below B6)) hna).mono ?_
  rintro e w7 ⟨ve, rfl, ove7, b7⟩
  have z7 := b7.size
  have hve : ∀ g, ve.ownBlock = some g → g < w7.heap.size := fun g hg => (ove7.ge g hg).2
  have B7 := below_step B6 b7 (by omega)
  have ovc7 := ovc6.keep (SameAt.of_below b7)
  have ovd7 := ovd6.keep b7
  clear B6 b7 ovc6 ovd6
  go_wp2_with fail
  refine (eqIntS_any w7 vc ve _ _ (ovc7.rd) (ove7.rd)).mono ?_
  rintro e w' ⟨q8, rfl, rfl⟩
  rw [decide_self]
  have z8 : w7.heap.size ≤ (w7.drewN q8).heap.size := Nat.le_refl _
  have B8 : Below w.heap.size w (w7.drewN q8) := below_drewN B7 q8
  have ovc8 : IOwn (w7.drewN q8) _ vc _ := ovc7
  have ovd8 : SOwn (w7.drewN q8) _ vd _ := ovd7
  have ove8 : IOwn (w7.drewN q8) _ ve _ := ove7
  clear B7 ovc7 ovd7 ove7
  generalize w7.drewN q8 = w8 at *
  clear ove8 hve
  go_wp2_with fail
  refine (toIntSS_any w8 _ b (HVb.out.below B8) hnb HNb.out).mono ?_
  rintro e w9 ⟨vf, rfl, ovf9, b9⟩
  have z9 := b9.size
  have hvf : ∀ g, vf.ownBlock = some g → g < w9.heap.size := fun g hg => (ovf9.ge g hg).2
  have B9 := below_step B8 b9 (by omega)
  have ovc9 := ovc8.keep (SameAt.of_below b9)
  have ovd9 := ovd8.keep b9
  clear B8 b9 ovc8 ovd8
  go_wp2_with fail
  refine (eqIntSS_any w9 vd vf _ _ (ovd9.rd) (ovf9.rd)).mono ?_
  rintro e w10 ⟨rfl, b10⟩
  rw [show ∀ x : List (List Int), decide (x = x) = true from fun x => by simp]
  have z10 := b10.size
  have B10 := below_step B9 b10 (by omega)
  have ovc10 := ovc9.keep (SameAt.of_below b10)
  have ovd10 := ovd9.keep b10
  have ovf10 := ovf9.keep b10
  clear B9 b10 ovc9 ovd9 ovf9
  go_wp2_with fail
  go_ret
  exact ⟨rfl, B10⟩

theorem FnExactBestReport_walk (a0 : Option Addr) (len0 cap0 : Nat) (z0 : List Int) (v1 : Value) (z1 : List (List Int)) (w : World) (w0 : IsRowC .i64 w a0 len0 cap0 z0) (w1 : SRd w v1 z1) :
    Calls Try.prog 14 #[.slice a0 len0 cap0, v1] w fun e w' => e = .returned (.bool true) ∧ Below w.heap.size w w' := by
  obtain ⟨xs0, h0⟩ := ird_of_row w0
  exact exactBestReport_any w _ xs0 v1 z1 h0 w1

set_option maxHeartbeats 4000000 in
theorem exactSeenMeasure_any (w : World) (n : Int) (vb : Value) (b : List Int) (hvb : IRd w vb b) :
    Calls Try.prog 15 #[.int .i64 n, vb] w fun e w' => e = .returned (.bool true) ∧ Below w.heap.size w w' := by
  obtain ⟨Ab, cb, rfl, hlb, hmb, -⟩ := id hvb
  have HVb := Lib.hid hvb
  clear hvb
  by_cases hbigb : 1048576 < b.length
  · have hbigb' : (1048576 : Int) < (b.length : Int) := by omega
    go_enter Try.func15, Try.ntmps15
    go_wp2_with fail
    go_ret
    exact ⟨rfl, Below.refl _ _⟩
  have hnb : b.length ≤ 1048576 := by omega
  have hnb' : (b.length : Int) ≤ 1048576 := by omega
  have hL := seenR_len n b
  obtain ⟨t, ht⟩ : ∃ t, seenB n b = t := ⟨_, rfl⟩
  go_enter Try.func15, Try.ntmps15
  go_wp2_with fail
  have B0 : Below w.heap.size w w := Below.refl _ _
  have z0 : w.heap.size ≤ w.heap.size := Nat.le_refl _
  go_wp2_with fail
  refine (toIntS_any w _ b (HVb.out.keep (SameAt.of_below B0)) hnb).mono ?_
  rintro e w1 ⟨va, rfl, ova1, b1⟩
  have z1 := b1.size
  have hva : ∀ g, va.ownBlock = some g → g < w1.heap.size := fun g hg => (ova1.ge g hg).2
  have B1 := below_step B0 b1 (by omega)
  clear B0 b1
  go_wp2_with fail
  refine (specSeenMeasure_any w1 n va b (ova1.rd)).mono ?_
  rintro e w2 ⟨vw, rfl, ovw2, b2⟩
  rw [ht]
  have z2 := b2.size
  have hvw : ∀ g, vw.ownBlock = some g → g < w2.heap.size := fun g hg => (ovw2.ge g hg).2
  have B2 := below_step B1 b2 (by omega)
  have ova2 := ova1.keep (SameAt.of_below b2)
  clear B1 b2 ova1
  clear ova2 hva
  go_wp2_with fail
  refine (toIntS_any w2 _ b (HVb.out.keep (SameAt.of_below B2)) hnb).mono ?_
  rintro e w3 ⟨vc, rfl, ovc3, b3⟩
  have z3 := b3.size
  have hvc : ∀ g, vc.ownBlock = some g → g < w3.heap.size := fun g hg => (ovc3.ge g hg).2
  have B3 := below_step B2 b3 (by omega)
  have ovw3 := ovw2.keep (SameAt.of_below b3)
  clear B2 b3 ovw2
  go_wp2_with fail
  refine (implSeenMeasure_any w3 n vc b (ovc3.rd)).mono ?_
  rintro e w4 ⟨vg, rfl, ovg4, b4⟩
  rw [ht]
  have z4 := b4.size
  have hvg : ∀ g, vg.ownBlock = some g → g < w4.heap.size := fun g hg => (ovg4.ge g hg).2
  have B4 := below_step B3 b4 (by omega)
  have ovw4 := ovw3.keep (SameAt.of_below b4)
  have ovc4 := ovc3.keep (SameAt.of_below b4)
  clear B3 b4 ovw3 ovc3
  cases t
  all_goals
    go_wp2_with fail
    refine (eqIntS_any w4 vg vw _ _ (ovg4.rd) (ovw4.rd)).mono ?_
    rintro e w' ⟨q5, rfl, rfl⟩
    rw [decide_self]
    have z5 : w4.heap.size ≤ (w4.drewN q5).heap.size := Nat.le_refl _
    have B5 : Below w.heap.size w (w4.drewN q5) := below_drewN B4 q5
    have ovw5 : IOwn (w4.drewN q5) _ vw _ := ovw4
    have ovc5 : IOwn (w4.drewN q5) _ vc _ := ovc4
    have ovg5 : IOwn (w4.drewN q5) _ vg _ := ovg4
    clear B4 ovw4 ovc4 ovg4
    generalize w4.drewN q5 = w5 at *
    go_wp2_with fail
    refine (toIntS_any w5 _ b (HVb.out.keep (SameAt.of_below B5)) hnb).mono ?_
    rintro e w6 ⟨ve, rfl, ove6, b6⟩
    have z6 := b6.size
    have hve : ∀ g, ve.ownBlock = some g → g < w6.heap.size := fun g hg => (ove6.ge g hg).2
    have B6 := below_step B5 b6 (by omega)
    have ovw6 := ovw5.keep (SameAt.of_below b6)
    have ovc6 := ovc5.keep (SameAt.of_below b6)
    have ovg6 := ovg5.keep (SameAt.of_below b6)
    clear B5 b6 ovw5 ovc5 ovg5
    go_wp2_with fail
    refine (eqIntS_any w6 vc ve _ _ (ovc6.rd) (ove6.rd)).mono ?_
    rintro e w' ⟨q7, rfl, rfl⟩
    rw [decide_self]
    have z7 : w6.heap.size ≤ (w6.drewN q7).heap.size := Nat.le_refl _
    have B7 : Below w.heap.size w (w6.drewN q7) := below_drewN B6 q7
    have ovw7 : IOwn (w6.drewN q7) _ vw _ := ovw6
    have ovc7 : IOwn (w6.drewN q7) _ vc _ := ovc6
    have ovg7 : IOwn (w6.drewN q7) _ vg _ := ovg6
    have ove7 : IOwn (w6.drewN q7) _ ve _ := ove6
    clear B6 ovw6 ovc6 ovg6 ove6
    generalize w6.drewN q7 = w7 at *
    clear ove7 hve
    go_wp2_with fail
    refine (markIntS_any w7 _ (1) vc _ ovc7 hnb (by omega) (by omega)).mono ?_
    rintro e w8 ⟨rfl, ovc8, g8, y8⟩
    have z8 : w7.heap.size ≤ w8.heap.size := by omega
    have ovw8 := ovw7.keep (SameAt.of_grown g8 (own_far ovc7 (fun g hg => by have := hvw g hg; omega)))
    have ovg8 := ovg7.keep (SameAt.of_grown g8 (own_far' ovg7 (fun g hg => by have := hvc g hg; omega)))
    have B8 := below_grown B7 g8 ovc7 (by omega) (by omega)
    clear B7 ovc7 g8 ovw7 ovg7
    go_wp2_with fail
    refine (eqIntS_any w8 vg vw _ _ (ovg8.rd) (ovw8.rd)).mono ?_
    rintro e w' ⟨q9, rfl, rfl⟩
    rw [decide_self]
    have z9 : w8.heap.size ≤ (w8.drewN q9).heap.size := Nat.le_refl _
    have B9 : Below w.heap.size w (w8.drewN q9) := below_drewN B8 q9
    have ovw9 : IOwn (w8.drewN q9) _ vw _ := ovw8
    have ovc9 : IOwn (w8.drewN q9) _ vc _ := ovc8
    have ovg9 : IOwn (w8.drewN q9) _ vg _ := ovg8
    clear B8 ovw8 ovc8 ovg8
    generalize w8.drewN q9 = w9 at *
    go_wp2_with fail
    refine (markIntS_any w9 _ (1) vg _ ovg9 (by omega) (by omega) (by omega)).mono ?_
    rintro e w10 ⟨rfl, ovg10, g10, y10⟩
    have z10 : w9.heap.size ≤ w10.heap.size := by omega
    have ovw10 := ovw9.keep (SameAt.of_grown g10 (own_far ovg9 (fun g hg => by have := hvw g hg; omega)))
    have ovc10 := ovc9.keep (SameAt.of_grown g10 (own_far ovg9 (fun g hg => by have := hvc g hg; omega)))
    have B10 := below_grown B9 g10 ovg9 (by omega) (by omega)
    clear B9 ovg9 g10 ovw9 ovc9
    go_wp2_with fail
    refine (heldIntS_any w10 (1) vg _ (ovg10.rd) (by omega) (by omega) (by omega)).mono ?_
    rintro e w' ⟨rfl, rfl⟩
    go_wp2_with fail
    refine (toIntS_any w10 _ b (HVb.out.keep (SameAt.of_below B10)) hnb).mono ?_
    rintro e w11 ⟨vh, rfl, ovh11, b11⟩
    have z11 := b11.size
    have hvh : ∀ g, vh.ownBlock = some g → g < w11.heap.size := fun g hg => (ovh11.ge g hg).2
    have B11 := below_step B10 b11 (by omega)
    have ovw11 := ovw10.keep (SameAt.of_below b11)
    have ovc11 := ovc10.keep (SameAt.of_below b11)
    have ovg11 := ovg10.keep (SameAt.of_below b11)
    clear B10 b11 ovw10 ovc10 ovg10
    go_wp2_with fail
    refine (implSeenMeasure_any w11 n vh b (ovh11.rd)).mono ?_
    rintro e w12 ⟨vj, rfl, ovj12, b12⟩
    rw [ht]
    have z12 := b12.size
    have hvj : ∀ g, vj.ownBlock = some g → g < w12.heap.size := fun g hg => (ovj12.ge g hg).2
    have B12 := below_step B11 b12 (by omega)
    have ovw12 := ovw11.keep (SameAt.of_below b12)
    have ovc12 := ovc11.keep (SameAt.of_below b12)
    have ovg12 := ovg11.keep (SameAt.of_below b12)
    have ovh12 := ovh11.keep (SameAt.of_below b12)
    clear B11 b12 ovw11 ovc11 ovg11 ovh11
    clear ovh12 hvh
    go_wp2_with fail
    refine (eqIntS_any w12 vj vw _ _ (ovj12.rd) (ovw12.rd)).mono ?_
    rintro e w' ⟨q13, rfl, rfl⟩
    rw [decide_self]
    have z13 : w12.heap.size ≤ (w12.drewN q13).heap.size := Nat.le_refl _
    have B13 : Below w.heap.size w (w12.drewN q13) := below_drewN B12 q13
    have ovw13 : IOwn (w12.drewN q13) _ vw _ := ovw12
    have ovc13 : IOwn (w12.drewN q13) _ vc _ := ovc12
    have ovg13 : IOwn (w12.drewN q13) _ vg _ := ovg12
    have ovj13 : IOwn (w12.drewN q13) _ vj _ := ovj12
    clear B12 ovw12 ovc12 ovg12 ovj12
    generalize w12.drewN q13 = w13 at *
    go_wp2_with fail
    refine (heldIntS_any w13 (1) vg _ (ovg13.rd) (by omega) (by omega) (by omega)).mono ?_
    rintro e w' ⟨rfl, rfl⟩
    go_wp2_with fail
    go_ret
    exact ⟨rfl, B13⟩

theorem FnExactSeenMeasure_walk (a0 : Int) (a1 : Option Addr) (len1 cap1 : Nat) (z1 : List Int) (w : World) (w0 : (Lit.int .i64 a0).wf = true) (w1 : IsRowC .i64 w a1 len1 cap1 z1) :
    Calls Try.prog 15 #[.int .i64 a0, .slice a1 len1 cap1] w fun e w' => e = .returned (.bool true) ∧ Below w.heap.size w w' := by
  obtain ⟨xs1, h1⟩ := ird_of_row w1
  exact exactSeenMeasure_any w a0 _ xs1 h1

end Go.Proofs.Ytnkgnhnggjoglaa
