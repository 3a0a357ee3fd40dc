/- The walks of the exact laws of chapter 4. Conditions: stated at each. -/
import Derived.Test.YtnbkpfmcnjgfdaaNc
import Derived.Test.YtnbkpfmcnjgfdaaQf
namespace Go.Proofs.Ytnbkpfmcnjgfdaa
open Go.RowKit
set_option linter.unusedVariables false

set_option maxHeartbeats 4000000 in
theorem exactBringsBy_any (w : World) (vm : Value) (m : List Int) (vg : Value) (g : List Int) (hvm : IRd w vm m) (hvg : IRd w vg g) :
    Calls Try.prog 5 #[vm, vg] w fun e w' => e = .returned (.bool true) ∧ Below w.heap.size w w' := by
  obtain ⟨Am, cm, rfl, hlm, hmm, -⟩ := id hvm
  have HVm := Lib.hid hvm
  clear hvm
  obtain ⟨Ag, cg, rfl, hlg, hmg, -⟩ := id hvg
  have HVg := Lib.hid hvg
  clear hvg
  by_cases hbigm : 1048576 < m.length
  · have hbigm' : (1048576 : Int) < (m.length : Int) := by omega
    go_enter Try.func5, Try.ntmps5
    go_wp2_with fail
    go_ret
    exact ⟨rfl, Below.refl _ _⟩
  by_cases hbigg : 1048576 < g.length
  · have hbigg' : (1048576 : Int) < (g.length : Int) := by omega
    have hsm' : (m.length : Int) ≤ 1048576 := by omega
    go_enter Try.func5, Try.ntmps5
    go_wp2_with fail
    go_ret
    exact ⟨rfl, Below.refl _ _⟩
  have hnm : m.length ≤ 1048576 := by omega
  have hnm' : (m.length : Int) ≤ 1048576 := by omega
  have hng : g.length ≤ 1048576 := by omega
  have hng' : (g.length : Int) ≤ 1048576 := by omega
  obtain ⟨t, ht⟩ : ∃ t, brR m g = t := ⟨_, rfl⟩
  obtain ⟨b, hb⟩ : ∃ b, brB m g = b := ⟨_, rfl⟩
  go_enter Try.func5, Try.ntmps5
  go_wp2_with fail
  have B0 : Below w.heap.size w w := Below.refl _ _
  have z0 : w.heap.size ≤ w.heap.size := Nat.le_refl _
  go_wp2_with fail
  refine (toIntS_any w _ m (HVm.out.keep (SameAt.of_below B0)) hnm).mono ?_
  rintro e w1 ⟨va, rfl, ova1, b1⟩
  have z1 := b1.size
  have hva : ∀ g, va.ownBlock = some g → g < w1.heap.size := fun g hg => (ova1.ge g hg).2
  have B1 := below_step B0 b1 (by omega)
  clear B0 b1
  go_wp2_with fail
  refine (toIntS_any w1 _ g (HVg.out.keep (SameAt.of_below B1)) hng).mono ?_
  rintro e w2 ⟨vb, rfl, ovb2, b2⟩
  have z2 := b2.size
  have hvb : ∀ g, vb.ownBlock = some g → g < w2.heap.size := fun g hg => (ovb2.ge g hg).2
  have B2 := below_step B1 b2 (by omega)
  have ova2 := ova1.keep (SameAt.of_below b2)
  clear B1 b2 ova1
  go_wp2_with fail
  refine (specBringsBy_any w2 va vb m g (ova2.rd) (ovb2.rd)).mono ?_
  rintro e w3 ⟨rfl, b3⟩
  rw [ht, hb]
  have z3 := b3.size
  have B3 := below_step B2 b3 (by omega)
  have ova3 := ova2.keep (SameAt.of_below b3)
  have ovb3 := ovb2.keep (SameAt.of_below b3)
  clear B2 b3 ova2 ovb2
  clear ova3 hva
  clear ovb3 hvb
  go_wp2_with fail
  refine (toIntS_any w3 _ m (HVm.out.keep (SameAt.of_below B3)) hnm).mono ?_
  rintro e w4 ⟨vc, rfl, ovc4, b4⟩
  have z4 := b4.size
  have hvc : ∀ g, vc.ownBlock = some g → g < w4.heap.size := fun g hg => (ovc4.ge g hg).2
  have B4 := below_step B3 b4 (by omega)
  clear B3 b4
  go_wp2_with fail
  refine (toIntS_any w4 _ g (HVg.out.keep (SameAt.of_below B4)) hng).mono ?_
  rintro e w5 ⟨vd, rfl, ovd5, b5⟩
  have z5 := b5.size
  have hvd : ∀ g, vd.ownBlock = some g → g < w5.heap.size := fun g hg => (ovd5.ge g hg).2
  have B5 := below_step B4 b5 (by omega)
  have ovc5 := ovc4.keep (SameAt.of_below b5)
  clear B4 b5 ovc4
  go_wp2_with fail
  refine (implBringsBy_any w5 vc vd m g (ovc5.rd) (ovd5.rd)).mono ?_
  rintro e w6 ⟨rfl, b6⟩
  rw [ht, hb]
  have z6 := b6.size
  have B6 := below_step B5 b6 (by omega)
  have ovc6 := ovc5.keep (SameAt.of_below b6)
  have ovd6 := ovd5.keep (SameAt.of_below b6)
  clear B5 b6 ovc5 ovd5
  cases b
  all_goals
    go_wp2_with fail
    refine (toIntS_any w6 _ m (HVm.out.keep (SameAt.of_below B6)) hnm).mono ?_
    rintro e w7 ⟨ve, rfl, ove7, b7⟩
    have z7 := b7.size
    have hve : ∀ g, ve.ownBlock = some g → g < w7.heap.size := fun g hg => (ove7.ge g hg).2
    have B7 := below_step B6 b7 (by omega)
    have ovc7 := ovc6.keep (SameAt.of_below b7)
    have ovd7 := ovd6.keep (SameAt.of_below b7)
    clear B6 b7 ovc6 ovd6
    go_wp2_with fail
    refine (eqIntS_any w7 vc ve _ _ (ovc7.rd) (ove7.rd)).mono ?_
    rintro e w' ⟨q8, rfl, rfl⟩
    rw [decide_self]
    have z8 : w7.heap.size ≤ (w7.drewN q8).heap.size := Nat.le_refl _
    have B8 : Below w.heap.size w (w7.drewN q8) := below_drewN B7 q8
    have ovc8 : IOwn (w7.drewN q8) _ vc _ := ovc7
    have ovd8 : IOwn (w7.drewN q8) _ vd _ := ovd7
    have ove8 : IOwn (w7.drewN q8) _ ve _ := ove7
    clear B7 ovc7 ovd7 ove7
    generalize w7.drewN q8 = w8 at *
    clear ove8 hve
    go_wp2_with fail
    refine (toIntS_any w8 _ g (HVg.out.keep (SameAt.of_below B8)) hng).mono ?_
    rintro e w9 ⟨vf, rfl, ovf9, b9⟩
    have z9 := b9.size
    have hvf : ∀ g, vf.ownBlock = some g → g < w9.heap.size := fun g hg => (ovf9.ge g hg).2
    have B9 := below_step B8 b9 (by omega)
    have ovc9 := ovc8.keep (SameAt.of_below b9)
    have ovd9 := ovd8.keep (SameAt.of_below b9)
    clear B8 b9 ovc8 ovd8
    go_wp2_with fail
    refine (eqIntS_any w9 vd vf _ _ (ovd9.rd) (ovf9.rd)).mono ?_
    rintro e w' ⟨q10, rfl, rfl⟩
    rw [decide_self]
    have z10 : w9.heap.size ≤ (w9.drewN q10).heap.size := Nat.le_refl _
    have B10 : Below w.heap.size w (w9.drewN q10) := below_drewN B9 q10
    have ovc10 : IOwn (w9.drewN q10) _ vc _ := ovc9
    have ovd10 : IOwn (w9.drewN q10) _ vd _ := ovd9
    have ovf10 : IOwn (w9.drewN q10) _ vf _ := ovf9
    clear B9 ovc9 ovd9 ovf9
    generalize w9.drewN q10 = w10 at *
    go_wp2_with fail
    go_ret
    exact ⟨rfl, B10⟩

theorem FnExactBringsBy_walk (a0 : Option Addr) (len0 cap0 : Nat) (z0 : List Int) (a1 : Option Addr) (len1 cap1 : Nat) (z1 : List Int) (w : World) (w0 : IsRowC .i64 w a0 len0 cap0 z0) (w1 : IsRowC .i64 w a1 len1 cap1 z1) :
    Calls Try.prog 5 #[.slice a0 len0 cap0, .slice a1 len1 cap1] w fun e w' => e = .returned (.bool true) ∧ Below w.heap.size w w' := by
  obtain ⟨xs0, h0⟩ := ird_of_row w0
  obtain ⟨xs1, h1⟩ := ird_of_row w1
  exact exactBringsBy_any w _ xs0 _ xs1 h0 h1

end Go.Proofs.Ytnbkpfmcnjgfdaa
