/- The walks of the exact laws of chapter 13. Conditions: stated at each. (gen_jg.py) -/
import Derived.Test.YtodmgcbcacblbaaJp
import Derived.Test.YtodmgcbcacblbaaJf
namespace Go.Proofs.Ytodmgcbcacblbaa
open Go.RowKit
set_option linter.unusedVariables false

theorem tgR_len (n : Int) (bs : List Bt) (ss : List Int) : (tgR n bs ss).length ≤ 4 := by
  unfold tgR
  split
  · next h =>
    have h1 := bal_wok (tg_bal h)
    rw [tgL, balL_len]; omega
  · simp

set_option maxHeartbeats 4000000 in
theorem exactBidsOk_any (w : World) (n : Int) (vbs : Value) (bs : List Bt) (hvbs : BRd w vbs bs) :
    Calls Try.prog 10 #[.int .i64 n, vbs] w fun e w' => e = .returned (.bool true) ∧ Below w.heap.size w w' := by
  obtain ⟨Abs, cbs, rfl, hlbs, hmbs⟩ := hvbs.form
  have HVbs := Lib.hid hvbs
  clear hvbs
  by_cases hbigbs : 1048576 < bs.length
  · skip
    go_enter Try.func10, Try.ntmps10
    go_wp2_with fail
    refine (szBidS_big w Abs bs.length cbs hbigbs (by omega)).mono ?_
    rintro e w' ⟨rfl, rfl⟩
    go_wp2_with fail
    go_ret
    exact ⟨rfl, Below.refl _ _⟩
  have hnbs : bs.length ≤ 1048576 := by omega
  have hnbs' : (bs.length : Int) ≤ 1048576 := by omega
  obtain ⟨b, hb⟩ : ∃ b, bidsB n bs = b := ⟨_, rfl⟩
  go_enter Try.func10, Try.ntmps10
  go_wp2_with fail
  have B0 : Below w.heap.size w w := Below.refl _ _
  have z0 : w.heap.size ≤ w.heap.size := Nat.le_refl _
  go_wp2_with fail
  refine (szBidS_small w Abs bs.length cbs hnbs).mono ?_
  rintro e w' ⟨rfl, rfl⟩
  go_wp2_with fail
  refine (toBidS_any w _ bs (HVbs.out.keep (SameAt.of_below B0)) hnbs).mono ?_
  rintro e w1 ⟨va, rfl, ova1, b1⟩
  have z1 := b1.size
  have hva : ∀ g, va.ownBlock = some g → g < w1.heap.size := fun g hg => (ova1.ge g hg).2
  have B1 := below_step B0 b1 (by omega)
  clear B0 b1
  go_wp2_with fail
  refine (specBidsOk_any w1 n va bs (ova1.rd bC_len)).mono ?_
  rintro e w2 ⟨rfl, b2⟩
  rw [hb]
  have z2 := b2.size
  have B2 := below_step B1 b2 (by omega)
  have ova2 := ova1.keep (SameAt.of_below b2)
  clear B1 b2 ova1
  clear ova2 hva
  go_wp2_with fail
  refine (toBidS_any w2 _ bs (HVbs.out.keep (SameAt.of_below B2)) hnbs).mono ?_
  rintro e w3 ⟨vc, rfl, ovc3, b3⟩
  have z3 := b3.size
  have hvc : ∀ g, vc.ownBlock = some g → g < w3.heap.size := fun g hg => (ovc3.ge g hg).2
  have B3 := below_step B2 b3 (by omega)
  clear B2 b3
  go_wp2_with fail
  refine (implBidsOk_any w3 n vc bs (ovc3.rd bC_len)).mono ?_
  rintro e w4 ⟨rfl, b4⟩
  rw [hb]
  have z4 := b4.size
  have B4 := below_step B3 b4 (by omega)
  have ovc4 := ovc3.keep (SameAt.of_below b4)
  clear B3 b4 ovc3
  cases b
  all_goals
    go_wp2_with fail
    refine (toBidS_any w4 _ bs (HVbs.out.keep (SameAt.of_below B4)) hnbs).mono ?_
    rintro e w5 ⟨ve, rfl, ove5, b5⟩
    have z5 := b5.size
    have hve : ∀ g, ve.ownBlock = some g → g < w5.heap.size := fun g hg => (ove5.ge g hg).2
    have B5 := below_step B4 b5 (by omega)
    have ovc5 := ovc4.keep (SameAt.of_below b5)
    clear B4 b5 ovc4
    go_wp2_with fail
    refine (eqBidS_any w5 vc ve _ _ (ovc5.rd bC_len) (ove5.rd bC_len)).mono ?_
    rintro e w6 ⟨rfl, b6⟩
    rw [show ∀ x : List Bt, decide (x = x) = true from fun x => by simp]
    have z6 := b6.size
    have B6 := below_step B5 b6 (by omega)
    have ovc6 := ovc5.keep (SameAt.of_below b6)
    have ove6 := ove5.keep (SameAt.of_below b6)
    clear B5 b6 ovc5 ove5
    go_wp2_with fail
    go_ret
    exact ⟨rfl, B6⟩

theorem FnExactBidsOk_walk (a0 : Int) (v1 : Value) (z1 : List Bt) (w : World) (w0 : (Lit.int .i64 a0).wf = true) (w1 : BRd w v1 z1) :
    Calls Try.prog 10 #[.int .i64 a0, v1] w fun e w' => e = .returned (.bool true) ∧ Below w.heap.size w w' := by
  exact exactBidsOk_any w a0 v1 z1 w1

set_option maxHeartbeats 4000000 in
theorem exactSidesFair_any (w : World) (n : Int) (vbs : Value) (bs : List Bt) (hvbs : BRd w vbs bs) :
    Calls Try.prog 12 #[.int .i64 n, vbs] w fun e w' => e = .returned (.bool true) ∧ Below w.heap.size w w' := by
  obtain ⟨Abs, cbs, rfl, hlbs, hmbs⟩ := hvbs.form
  have HVbs := Lib.hid hvbs
  clear hvbs
  by_cases hbigbs : 1048576 < bs.length
  · skip
    go_enter Try.func12, Try.ntmps12
    go_wp2_with fail
    refine (szBidS_big w Abs bs.length cbs hbigbs (by omega)).mono ?_
    rintro e w' ⟨rfl, rfl⟩
    go_wp2_with fail
    go_ret
    exact ⟨rfl, Below.refl _ _⟩
  have hnbs : bs.length ≤ 1048576 := by omega
  have hnbs' : (bs.length : Int) ≤ 1048576 := by omega
  obtain ⟨b, hb⟩ : ∃ b, sfairB n bs = b := ⟨_, rfl⟩
  go_enter Try.func12, Try.ntmps12
  go_wp2_with fail
  have B0 : Below w.heap.size w w := Below.refl _ _
  have z0 : w.heap.size ≤ w.heap.size := Nat.le_refl _
  go_wp2_with fail
  refine (szBidS_small w Abs bs.length cbs hnbs).mono ?_
  rintro e w' ⟨rfl, rfl⟩
  go_wp2_with fail
  refine (toBidS_any w _ bs (HVbs.out.keep (SameAt.of_below B0)) hnbs).mono ?_
  rintro e w1 ⟨va, rfl, ova1, b1⟩
  have z1 := b1.size
  have hva : ∀ g, va.ownBlock = some g → g < w1.heap.size := fun g hg => (ova1.ge g hg).2
  have B1 := below_step B0 b1 (by omega)
  clear B0 b1
  go_wp2_with fail
  refine (specSidesFair_any w1 n va bs (ova1.rd bC_len)).mono ?_
  rintro e w2 ⟨rfl, b2⟩
  rw [hb]
  have z2 := b2.size
  have B2 := below_step B1 b2 (by omega)
  have ova2 := ova1.keep (SameAt.of_below b2)
  clear B1 b2 ova1
  clear ova2 hva
  go_wp2_with fail
  refine (toBidS_any w2 _ bs (HVbs.out.keep (SameAt.of_below B2)) hnbs).mono ?_
  rintro e w3 ⟨vc, rfl, ovc3, b3⟩
  have z3 := b3.size
  have hvc : ∀ g, vc.ownBlock = some g → g < w3.heap.size := fun g hg => (ovc3.ge g hg).2
  have B3 := below_step B2 b3 (by omega)
  clear B2 b3
  go_wp2_with fail
  refine (implSidesFair_any w3 n vc bs (ovc3.rd bC_len)).mono ?_
  rintro e w4 ⟨rfl, b4⟩
  rw [hb]
  have z4 := b4.size
  have B4 := below_step B3 b4 (by omega)
  have ovc4 := ovc3.keep (SameAt.of_below b4)
  clear B3 b4 ovc3
  cases b
  all_goals
    go_wp2_with fail
    refine (toBidS_any w4 _ bs (HVbs.out.keep (SameAt.of_below B4)) hnbs).mono ?_
    rintro e w5 ⟨ve, rfl, ove5, b5⟩
    have z5 := b5.size
    have hve : ∀ g, ve.ownBlock = some g → g < w5.heap.size := fun g hg => (ove5.ge g hg).2
    have B5 := below_step B4 b5 (by omega)
    have ovc5 := ovc4.keep (SameAt.of_below b5)
    clear B4 b5 ovc4
    go_wp2_with fail
    refine (eqBidS_any w5 vc ve _ _ (ovc5.rd bC_len) (ove5.rd bC_len)).mono ?_
    rintro e w6 ⟨rfl, b6⟩
    rw [show ∀ x : List Bt, decide (x = x) = true from fun x => by simp]
    have z6 := b6.size
    have B6 := below_step B5 b6 (by omega)
    have ovc6 := ovc5.keep (SameAt.of_below b6)
    have ove6 := ove5.keep (SameAt.of_below b6)
    clear B5 b6 ovc5 ove5
    go_wp2_with fail
    go_ret
    exact ⟨rfl, B6⟩

theorem FnExactSidesFair_walk (a0 : Int) (v1 : Value) (z1 : List Bt) (w : World) (w0 : (Lit.int .i64 a0).wf = true) (w1 : BRd w v1 z1) :
    Calls Try.prog 12 #[.int .i64 a0, v1] w fun e w' => e = .returned (.bool true) ∧ Below w.heap.size w w' := by
  exact exactSidesFair_any w a0 v1 z1 w1

set_option maxHeartbeats 4000000 in
theorem exactTightOk_any (w : World) (n : Int) (vbs : Value) (bs : List Bt) (hvbs : BRd w vbs bs) :
    Calls Try.prog 16 #[.int .i64 n, vbs] w fun e w' => e = .returned (.bool true) ∧ Below w.heap.size w w' := by
  obtain ⟨Abs, cbs, rfl, hlbs, hmbs⟩ := hvbs.form
  have HVbs := Lib.hid hvbs
  clear hvbs
  by_cases hbigbs : 1048576 < bs.length
  · skip
    go_enter Try.func16, Try.ntmps16
    go_wp2_with fail
    refine (szBidS_big w Abs bs.length cbs hbigbs (by omega)).mono ?_
    rintro e w' ⟨rfl, rfl⟩
    go_wp2_with fail
    go_ret
    exact ⟨rfl, Below.refl _ _⟩
  have hnbs : bs.length ≤ 1048576 := by omega
  have hnbs' : (bs.length : Int) ≤ 1048576 := by omega
  obtain ⟨b, hb⟩ : ∃ b, tightB n bs = b := ⟨_, rfl⟩
  go_enter Try.func16, Try.ntmps16
  go_wp2_with fail
  have B0 : Below w.heap.size w w := Below.refl _ _
  have z0 : w.heap.size ≤ w.heap.size := Nat.le_refl _
  go_wp2_with fail
  refine (szBidS_small w Abs bs.length cbs hnbs).mono ?_
  rintro e w' ⟨rfl, rfl⟩
  go_wp2_with fail
  refine (toBidS_any w _ bs (HVbs.out.keep (SameAt.of_below B0)) hnbs).mono ?_
  rintro e w1 ⟨va, rfl, ova1, b1⟩
  have z1 := b1.size
  have hva : ∀ g, va.ownBlock = some g → g < w1.heap.size := fun g hg => (ova1.ge g hg).2
  have B1 := below_step B0 b1 (by omega)
  clear B0 b1
  go_wp2_with fail
  refine (specTightOk_any w1 n va bs (ova1.rd bC_len)).mono ?_
  rintro e w2 ⟨rfl, b2⟩
  rw [hb]
  have z2 := b2.size
  have B2 := below_step B1 b2 (by omega)
  have ova2 := ova1.keep (SameAt.of_below b2)
  clear B1 b2 ova1
  clear ova2 hva
  go_wp2_with fail
  refine (toBidS_any w2 _ bs (HVbs.out.keep (SameAt.of_below B2)) hnbs).mono ?_
  rintro e w3 ⟨vc, rfl, ovc3, b3⟩
  have z3 := b3.size
  have hvc : ∀ g, vc.ownBlock = some g → g < w3.heap.size := fun g hg => (ovc3.ge g hg).2
  have B3 := below_step B2 b3 (by omega)
  clear B2 b3
  go_wp2_with fail
  refine (implTightOk_any w3 n vc bs (ovc3.rd bC_len)).mono ?_
  rintro e w4 ⟨rfl, b4⟩
  rw [hb]
  have z4 := b4.size
  have B4 := below_step B3 b4 (by omega)
  have ovc4 := ovc3.keep (SameAt.of_below b4)
  clear B3 b4 ovc3
  cases b
  all_goals
    go_wp2_with fail
    refine (toBidS_any w4 _ bs (HVbs.out.keep (SameAt.of_below B4)) hnbs).mono ?_
    rintro e w5 ⟨ve, rfl, ove5, b5⟩
    have z5 := b5.size
    have hve : ∀ g, ve.ownBlock = some g → g < w5.heap.size := fun g hg => (ove5.ge g hg).2
    have B5 := below_step B4 b5 (by omega)
    have ovc5 := ovc4.keep (SameAt.of_below b5)
    clear B4 b5 ovc4
    go_wp2_with fail
    refine (eqBidS_any w5 vc ve _ _ (ovc5.rd bC_len) (ove5.rd bC_len)).mono ?_
    rintro e w6 ⟨rfl, b6⟩
    rw [show ∀ x : List Bt, decide (x = x) = true from fun x => by simp]
    have z6 := b6.size
    have B6 := below_step B5 b6 (by omega)
    have ovc6 := ovc5.keep (SameAt.of_below b6)
    have ove6 := ove5.keep (SameAt.of_below b6)
    clear B5 b6 ovc5 ove5
    go_wp2_with fail
    go_ret
    exact ⟨rfl, B6⟩

theorem FnExactTightOk_walk (a0 : Int) (v1 : Value) (z1 : List Bt) (w : World) (w0 : (Lit.int .i64 a0).wf = true) (w1 : BRd w v1 z1) :
    Calls Try.prog 16 #[.int .i64 a0, v1] w fun e w' => e = .returned (.bool true) ∧ Below w.heap.size w w' := by
  exact exactTightOk_any w a0 v1 z1 w1

set_option maxHeartbeats 4000000 in
theorem exactFitsSides_any (w : World) (vm : Value) (m : List Int) (vbs : Value) (bs : List Bt) (hvm : IRd w vm m) (hvbs : BRd w vbs bs) :
    Calls Try.prog 11 #[vm, vbs] w fun e w' => e = .returned (.bool true) ∧ Below w.heap.size w w' := by
  obtain ⟨Am, cm, rfl, hlm, hmm, -⟩ := id hvm
  have HVm := Lib.hid hvm
  clear hvm
  obtain ⟨Abs, cbs, rfl, hlbs, hmbs⟩ := hvbs.form
  have HVbs := Lib.hid hvbs
  clear hvbs
  by_cases hbigm : 1048576 < m.length
  · have hbigm' : (1048576 : Int) < (m.length : Int) := by omega
    go_enter Try.func11, Try.ntmps11
    go_wp2_with fail
    go_ret
    exact ⟨rfl, Below.refl _ _⟩
  by_cases hbigbs : 1048576 < bs.length
  · skip
    have hsm' : (m.length : Int) ≤ 1048576 := by omega
    go_enter Try.func11, Try.ntmps11
    go_wp2_with fail
    refine (szBidS_big w Abs bs.length cbs hbigbs (by omega)).mono ?_
    rintro e w' ⟨rfl, rfl⟩
    go_wp2_with fail
    go_ret
    exact ⟨rfl, Below.refl _ _⟩
  have hnm : m.length ≤ 1048576 := by omega
  have hnm' : (m.length : Int) ≤ 1048576 := by omega
  have hnbs : bs.length ≤ 1048576 := by omega
  have hnbs' : (bs.length : Int) ≤ 1048576 := by omega
  obtain ⟨b, hb⟩ : ∃ b, sfitB m bs = b := ⟨_, rfl⟩
  go_enter Try.func11, Try.ntmps11
  go_wp2_with fail
  have B0 : Below w.heap.size w w := Below.refl _ _
  have z0 : w.heap.size ≤ w.heap.size := Nat.le_refl _
  go_wp2_with fail
  refine (szBidS_small w Abs bs.length cbs hnbs).mono ?_
  rintro e w' ⟨rfl, rfl⟩
  go_wp2_with fail
  refine (toIntS_any w _ m (HVm.out.keep (SameAt.of_below B0)) hnm).mono ?_
  rintro e w1 ⟨va, rfl, ova1, b1⟩
  have z1 := b1.size
  have hva : ∀ g, va.ownBlock = some g → g < w1.heap.size := fun g hg => (ova1.ge g hg).2
  have B1 := below_step B0 b1 (by omega)
  clear B0 b1
  go_wp2_with fail
  refine (toBidS_any w1 _ bs (HVbs.out.keep (SameAt.of_below B1)) hnbs).mono ?_
  rintro e w2 ⟨vb, rfl, ovb2, b2⟩
  have z2 := b2.size
  have hvb : ∀ g, vb.ownBlock = some g → g < w2.heap.size := fun g hg => (ovb2.ge g hg).2
  have B2 := below_step B1 b2 (by omega)
  have ova2 := ova1.keep (SameAt.of_below b2)
  clear B1 b2 ova1
  go_wp2_with fail
  refine (specFitsSides_any w2 va vb m bs (ova2.rd) (ovb2.rd bC_len)).mono ?_
  rintro e w3 ⟨rfl, b3⟩
  rw [hb]
  have z3 := b3.size
  have B3 := below_step B2 b3 (by omega)
  have ova3 := ova2.keep (SameAt.of_below b3)
  have ovb3 := ovb2.keep (SameAt.of_below b3)
  clear B2 b3 ova2 ovb2
  clear ova3 hva
  clear ovb3 hvb
  go_wp2_with fail
  refine (toIntS_any w3 _ m (HVm.out.keep (SameAt.of_below B3)) hnm).mono ?_
  rintro e w4 ⟨vc, rfl, ovc4, b4⟩
  have z4 := b4.size
  have hvc : ∀ g, vc.ownBlock = some g → g < w4.heap.size := fun g hg => (ovc4.ge g hg).2
  have B4 := below_step B3 b4 (by omega)
  clear B3 b4
  go_wp2_with fail
  refine (toBidS_any w4 _ bs (HVbs.out.keep (SameAt.of_below B4)) hnbs).mono ?_
  rintro e w5 ⟨vd, rfl, ovd5, b5⟩
  have z5 := b5.size
  have hvd : ∀ g, vd.ownBlock = some g → g < w5.heap.size := fun g hg => (ovd5.ge g hg).2
  have B5 := below_step B4 b5 (by omega)
  have ovc5 := ovc4.keep (SameAt.of_below b5)
  clear B4 b5 ovc4
  go_wp2_with fail
  refine (implFitsSides_any w5 vc vd m bs (ovc5.rd) (ovd5.rd bC_len)).mono ?_
  rintro e w6 ⟨rfl, b6⟩
  rw [hb]
  have z6 := b6.size
  have B6 := below_step B5 b6 (by omega)
  have ovc6 := ovc5.keep (SameAt.of_below b6)
  have ovd6 := ovd5.keep (SameAt.of_below b6)
  clear B5 b6 ovc5 ovd5
  cases b
  all_goals
    go_wp2_with fail
    refine (toIntS_any w6 _ m (HVm.out.keep (SameAt.of_below B6)) hnm).mono ?_
    rintro e w7 ⟨ve, rfl, ove7, b7⟩
    have z7 := b7.size
    have hve : ∀ g, ve.ownBlock = some g → g < w7.heap.size := fun g hg => (ove7.ge g hg).2
    have B7 := below_step B6 b7 (by omega)
    have ovc7 := ovc6.keep (SameAt.of_below b7)
    have ovd7 := ovd6.keep (SameAt.of_below b7)
    clear B6 b7 ovc6 ovd6
    go_wp2_with fail
    refine (eqIntS_any w7 vc ve _ _ (ovc7.rd) (ove7.rd)).mono ?_
    rintro e w' ⟨q8, rfl, rfl⟩
    rw [decide_self]
    have z8 : w7.heap.size ≤ (w7.drewN q8).heap.size := Nat.le_refl _
    have B8 : Below w.heap.size w (w7.drewN q8) := below_drewN B7 q8
    have ovc8 : IOwn (w7.drewN q8) _ vc _ := ovc7
    have ovd8 : BOwn (w7.drewN q8) _ vd _ := ovd7
    have ove8 : IOwn (w7.drewN q8) _ ve _ := ove7
    clear B7 ovc7 ovd7 ove7
    generalize w7.drewN q8 = w8 at *
    clear ove8 hve
    go_wp2_with fail
    refine (toBidS_any w8 _ bs (HVbs.out.keep (SameAt.of_below B8)) hnbs).mono ?_
    rintro e w9 ⟨vf, rfl, ovf9, b9⟩
    have z9 := b9.size
    have hvf : ∀ g, vf.ownBlock = some g → g < w9.heap.size := fun g hg => (ovf9.ge g hg).2
    have B9 := below_step B8 b9 (by omega)
    have ovc9 := ovc8.keep (SameAt.of_below b9)
    have ovd9 := ovd8.keep (SameAt.of_below b9)
    clear B8 b9 ovc8 ovd8
    go_wp2_with fail
    refine (eqBidS_any w9 vd vf _ _ (ovd9.rd bC_len) (ovf9.rd bC_len)).mono ?_
    rintro e w10 ⟨rfl, b10⟩
    rw [show ∀ x : List Bt, decide (x = x) = true from fun x => by simp]
    have z10 := b10.size
    have B10 := below_step B9 b10 (by omega)
    have ovc10 := ovc9.keep (SameAt.of_below b10)
    have ovd10 := ovd9.keep (SameAt.of_below b10)
    have ovf10 := ovf9.keep (SameAt.of_below b10)
    clear B9 b10 ovc9 ovd9 ovf9
    go_wp2_with fail
    go_ret
    exact ⟨rfl, B10⟩

theorem FnExactFitsSides_walk (a0 : Option Addr) (len0 cap0 : Nat) (z0 : List Int) (v1 : Value) (z1 : List Bt) (w : World) (w0 : IsRowC .i64 w a0 len0 cap0 z0) (w1 : BRd w v1 z1) :
    Calls Try.prog 11 #[.slice a0 len0 cap0, v1] w fun e w' => e = .returned (.bool true) ∧ Below w.heap.size w w' := by
  obtain ⟨xs0, h0⟩ := ird_of_row w0
  exact exactFitsSides_any w _ xs0 v1 z1 h0 w1

set_option maxHeartbeats 4000000 in
theorem exactSidesOn_any (w : World) (n : Int) (vbs : Value) (bs : List Bt) (x : Int) (hvbs : BRd w vbs bs) :
    Calls Try.prog 15 #[.int .i64 n, vbs, .int .i64 x] w fun e w' => e = .returned (.bool true) ∧ Below w.heap.size w w' := by
  obtain ⟨Abs, cbs, rfl, hlbs, hmbs⟩ := hvbs.form
  have HVbs := Lib.hid hvbs
  clear hvbs
  by_cases hbigbs : 1048576 < bs.length
  · skip
    go_enter Try.func15, Try.ntmps15
    go_wp2_with fail
    refine (szBidS_big w Abs bs.length cbs hbigbs (by omega)).mono ?_
    rintro e w' ⟨rfl, rfl⟩
    go_wp2_with fail
    go_ret
    exact ⟨rfl, Below.refl _ _⟩
  have hnbs : bs.length ≤ 1048576 := by omega
  have hnbs' : (bs.length : Int) ≤ 1048576 := by omega
  obtain ⟨l, hl⟩ : ∃ l, soL n bs x = l := ⟨_, rfl⟩
  obtain ⟨m, hm⟩ : ∃ m, soM n bs x = m := ⟨_, rfl⟩
  obtain ⟨b, hb⟩ : ∃ b, soB n bs x = b := ⟨_, rfl⟩
  go_enter Try.func15, Try.ntmps15
  go_wp2_with fail
  have B0 : Below w.heap.size w w := Below.refl _ _
  have z0 : w.heap.size ≤ w.heap.size := Nat.le_refl _
  go_wp2_with fail
  refine (szBidS_small w Abs bs.length cbs hnbs).mono ?_
  rintro e w' ⟨rfl, rfl⟩
  go_wp2_with fail
  refine (toBidS_any w _ bs (HVbs.out.keep (SameAt.of_below B0)) hnbs).mono ?_
  rintro e w1 ⟨va, rfl, ova1, b1⟩
  have z1 := b1.size
  have hva : ∀ g, va.ownBlock = some g → g < w1.heap.size := fun g hg => (ova1.ge g hg).2
  have B1 := below_step B0 b1 (by omega)
  clear B0 b1
  go_wp2_with fail
  refine (specSidesOn_any w1 n va bs x (ova1.rd bC_len)).mono ?_
  rintro e w2 ⟨rfl, b2⟩
  rw [hl, hm, hb]
  have z2 := b2.size
  have B2 := below_step B1 b2 (by omega)
  have ova2 := ova1.keep (SameAt.of_below b2)
  clear B1 b2 ova1
  clear ova2 hva
  go_wp2_with fail
  refine (toBidS_any w2 _ bs (HVbs.out.keep (SameAt.of_below B2)) hnbs).mono ?_
  rintro e w3 ⟨vc, rfl, ovc3, b3⟩
  have z3 := b3.size
  have hvc : ∀ g, vc.ownBlock = some g → g < w3.heap.size := fun g hg => (ovc3.ge g hg).2
  have B3 := below_step B2 b3 (by omega)
  clear B2 b3
  go_wp2_with fail
  refine (implSidesOn_any w3 n vc bs x (ovc3.rd bC_len)).mono ?_
  rintro e w4 ⟨rfl, b4⟩
  rw [hl, hm, hb]
  have z4 := b4.size
  have B4 := below_step B3 b4 (by omega)
  have ovc4 := ovc3.keep (SameAt.of_below b4)
  clear B3 b4 ovc3
  cases b
  all_goals
    go_wp2_with fail
    refine (toBidS_any w4 _ bs (HVbs.out.keep (SameAt.of_below B4)) hnbs).mono ?_
    rintro e w5 ⟨ve, rfl, ove5, b5⟩
    have z5 := b5.size
    have hve : ∀ g, ve.ownBlock = some g → g < w5.heap.size := fun g hg => (ove5.ge g hg).2
    have B5 := below_step B4 b5 (by omega)
    have ovc5 := ovc4.keep (SameAt.of_below b5)
    clear B4 b5 ovc4
    go_wp2_with fail
    refine (eqBidS_any w5 vc ve _ _ (ovc5.rd bC_len) (ove5.rd bC_len)).mono ?_
    rintro e w6 ⟨rfl, b6⟩
    rw [show ∀ x : List Bt, decide (x = x) = true from fun x => by simp]
    have z6 := b6.size
    have B6 := below_step B5 b6 (by omega)
    have ovc6 := ovc5.keep (SameAt.of_below b6)
    have ove6 := ove5.keep (SameAt.of_below b6)
    clear B5 b6 ovc5 ove5
    go_wp2_with fail
    go_ret
    exact ⟨rfl, B6⟩

theorem FnExactSidesOn_walk (a0 : Int) (v1 : Value) (z1 : List Bt) (a2 : Int) (w : World) (w0 : (Lit.int .i64 a0).wf = true) (w1 : BRd w v1 z1) (w2 : (Lit.int .i64 a2).wf = true) :
    Calls Try.prog 15 #[.int .i64 a0, v1, .int .i64 a2] w fun e w' => e = .returned (.bool true) ∧ Below w.heap.size w w' := by
  exact exactSidesOn_any w a0 v1 z1 a2 w1

set_option maxHeartbeats 4000000 in
theorem exactTakerGain_any (w : World) (n : Int) (vbs : Value) (bs : List Bt) (vss : Value) (ss : List Int) (hvbs : BRd w vbs bs) (hvss : IRd w vss ss) :
    Calls Try.prog 13 #[.int .i64 n, vbs, vss] w fun e w' => e = .returned (.bool true) ∧ Below w.heap.size w w' := by
  obtain ⟨Abs, cbs, rfl, hlbs, hmbs⟩ := hvbs.form
  have HVbs := Lib.hid hvbs
  clear hvbs
  obtain ⟨Ass, css, rfl, hlss, hmss, -⟩ := id hvss
  have HVss := Lib.hid hvss
  clear hvss
  by_cases hbigss : 1048576 < ss.length
  · have hbigss' : (1048576 : Int) < (ss.length : Int) := by omega
    go_enter Try.func13, Try.ntmps13
    go_wp2_with fail
    go_ret
    exact ⟨rfl, Below.refl _ _⟩
  by_cases hbigbs : 1048576 < bs.length
  · skip
    have hsss' : (ss.length : Int) ≤ 1048576 := by omega
    go_enter Try.func13, Try.ntmps13
    go_wp2_with fail
    refine (szBidS_big w Abs bs.length cbs hbigbs (by omega)).mono ?_
    rintro e w' ⟨rfl, rfl⟩
    go_wp2_with fail
    go_ret
    exact ⟨rfl, Below.refl _ _⟩
  have hnss : ss.length ≤ 1048576 := by omega
  have hnss' : (ss.length : Int) ≤ 1048576 := by omega
  have hnbs : bs.length ≤ 1048576 := by omega
  have hnbs' : (bs.length : Int) ≤ 1048576 := by omega
  have hL := tgR_len n bs ss
  obtain ⟨b, hb⟩ : ∃ b, tgB n bs ss = b := ⟨_, rfl⟩
  go_enter Try.func13, Try.ntmps13
  go_wp2_with fail
  have B0 : Below w.heap.size w w := Below.refl _ _
  have z0 : w.heap.size ≤ w.heap.size := Nat.le_refl _
  go_wp2_with fail
  refine (szBidS_small w Abs bs.length cbs hnbs).mono ?_
  rintro e w' ⟨rfl, rfl⟩
  go_wp2_with fail
  refine (toBidS_any w _ bs (HVbs.out.keep (SameAt.of_below B0)) hnbs).mono ?_
  rintro e w1 ⟨va, rfl, ova1, b1⟩
  have z1 := b1.size
  have hva : ∀ g, va.ownBlock = some g → g < w1.heap.size := fun g hg => (ova1.ge g hg).2
  have B1 := below_step B0 b1 (by omega)
  clear B0 b1
  go_wp2_with fail
  refine (toIntS_any w1 _ ss (HVss.out.keep (SameAt.of_below B1)) hnss).mono ?_
  rintro e w2 ⟨vb, rfl, ovb2, b2⟩
  have z2 := b2.size
  have hvb : ∀ g, vb.ownBlock = some g → g < w2.heap.size := fun g hg => (ovb2.ge g hg).2
  have B2 := below_step B1 b2 (by omega)
  have ova2 := ova1.keep (SameAt.of_below b2)
  clear B1 b2 ova1
  go_wp2_with fail
  refine (specTakerGain_any w2 n va vb bs ss (ova2.rd bC_len) (ovb2.rd)).mono ?_
  rintro e w3 ⟨vw, rfl, ovw3, b3⟩
  rw [hb]
  have z3 := b3.size
  have hvw : ∀ g, vw.ownBlock = some g → g < w3.heap.size := fun g hg => (ovw3.ge g hg).2
  have B3 := below_step B2 b3 (by omega)
  have ova3 := ova2.keep (SameAt.of_below b3)
  have ovb3 := ovb2.keep (SameAt.of_below b3)
  clear B2 b3 ova2 ovb2
  clear ova3 hva
  clear ovb3 hvb
  go_wp2_with fail
  refine (toBidS_any w3 _ bs (HVbs.out.keep (SameAt.of_below B3)) hnbs).mono ?_
  rintro e w4 ⟨vc, rfl, ovc4, b4⟩
  have z4 := b4.size
  have hvc : ∀ g, vc.ownBlock = some g → g < w4.heap.size := fun g hg => (ovc4.ge g hg).2
  have B4 := below_step B3 b4 (by omega)
  have ovw4 := ovw3.keep (SameAt.of_below b4)
  clear B3 b4 ovw3
  go_wp2_with fail
  refine (toIntS_any w4 _ ss (HVss.out.keep (SameAt.of_below B4)) hnss).mono ?_
  rintro e w5 ⟨vd, rfl, ovd5, b5⟩
  have z5 := b5.size
  have hvd : ∀ g, vd.ownBlock = some g → g < w5.heap.size := fun g hg => (ovd5.ge g hg).2
  have B5 := below_step B4 b5 (by omega)
  have ovw5 := ovw4.keep (SameAt.of_below b5)
  have ovc5 := ovc4.keep (SameAt.of_below b5)
  clear B4 b5 ovw4 ovc4
  go_wp2_with fail
  refine (implTakerGain_any w5 n vc vd bs ss (ovc5.rd bC_len) (ovd5.rd)).mono ?_
  rintro e w6 ⟨vg, rfl, ovg6, b6⟩
  rw [hb]
  have z6 := b6.size
  have hvg : ∀ g, vg.ownBlock = some g → g < w6.heap.size := fun g hg => (ovg6.ge g hg).2
  have B6 := below_step B5 b6 (by omega)
  have ovw6 := ovw5.keep (SameAt.of_below b6)
  have ovc6 := ovc5.keep (SameAt.of_below b6)
  have ovd6 := ovd5.keep (SameAt.of_below b6)
  clear B5 b6 ovw5 ovc5 ovd5
  cases b
  all_goals
    go_wp2_with fail
    refine (eqIntS_any w6 vg vw _ _ (ovg6.rd) (ovw6.rd)).mono ?_
    rintro e w' ⟨q7, rfl, rfl⟩
    rw [decide_self]
    have z7 : w6.heap.size ≤ (w6.drewN q7).heap.size := Nat.le_refl _
    have B7 : Below w.heap.size w (w6.drewN q7) := below_drewN B6 q7
    have ovw7 : IOwn (w6.drewN q7) _ vw _ := ovw6
    have ovc7 : BOwn (w6.drewN q7) _ vc _ := ovc6
    have ovd7 : IOwn (w6.drewN q7) _ vd _ := ovd6
    have ovg7 : IOwn (w6.drewN q7) _ vg _ := ovg6
    clear B6 ovw6 ovc6 ovd6 ovg6
    generalize w6.drewN q7 = w7 at *
    go_wp2_with fail
    refine (toBidS_any w7 _ bs (HVbs.out.keep (SameAt.of_below B7)) hnbs).mono ?_
    rintro e w8 ⟨ve, rfl, ove8, b8⟩
    have z8 := b8.size
    have hve : ∀ g, ve.ownBlock = some g → g < w8.heap.size := fun g hg => (ove8.ge g hg).2
    have B8 := below_step B7 b8 (by omega)
    have ovw8 := ovw7.keep (SameAt.of_below b8)
    have ovc8 := ovc7.keep (SameAt.of_below b8)
    have ovd8 := ovd7.keep (SameAt.of_below b8)
    have ovg8 := ovg7.keep (SameAt.of_below b8)
    clear B7 b8 ovw7 ovc7 ovd7 ovg7
    go_wp2_with fail
    refine (eqBidS_any w8 vc ve _ _ (ovc8.rd bC_len) (ove8.rd bC_len)).mono ?_
    rintro e w9 ⟨rfl, b9⟩
    rw [show ∀ x : List Bt, decide (x = x) = true from fun x => by simp]
    have z9 := b9.size
    have B9 := below_step B8 b9 (by omega)
    have ovw9 := ovw8.keep (SameAt.of_below b9)
    have ovc9 := ovc8.keep (SameAt.of_below b9)
    have ovd9 := ovd8.keep (SameAt.of_below b9)
    have ovg9 := ovg8.keep (SameAt.of_below b9)
    have ove9 := ove8.keep (SameAt.of_below b9)
    clear B8 b9 ovw8 ovc8 ovd8 ovg8 ove8
    clear ove9 hve
    go_wp2_with fail
    refine (toIntS_any w9 _ ss (HVss.out.keep (SameAt.of_below B9)) hnss).mono ?_
    rintro e w10 ⟨vf, rfl, ovf10, b10⟩
    have z10 := b10.size
    have hvf : ∀ g, vf.ownBlock = some g → g < w10.heap.size := fun g hg => (ovf10.ge g hg).2
    have B10 := below_step B9 b10 (by omega)
    have ovw10 := ovw9.keep (SameAt.of_below b10)
    have ovc10 := ovc9.keep (SameAt.of_below b10)
    have ovd10 := ovd9.keep (SameAt.of_below b10)
    have ovg10 := ovg9.keep (SameAt.of_below b10)
    clear B9 b10 ovw9 ovc9 ovd9 ovg9
    go_wp2_with fail
    refine (eqIntS_any w10 vd vf _ _ (ovd10.rd) (ovf10.rd)).mono ?_
    rintro e w' ⟨q11, rfl, rfl⟩
    rw [decide_self]
    have z11 : w10.heap.size ≤ (w10.drewN q11).heap.size := Nat.le_refl _
    have B11 : Below w.heap.size w (w10.drewN q11) := below_drewN B10 q11
    have ovw11 : IOwn (w10.drewN q11) _ vw _ := ovw10
    have ovc11 : BOwn (w10.drewN q11) _ vc _ := ovc10
    have ovd11 : IOwn (w10.drewN q11) _ vd _ := ovd10
    have ovg11 : IOwn (w10.drewN q11) _ vg _ := ovg10
    have ovf11 : IOwn (w10.drewN q11) _ vf _ := ovf10
    clear B10 ovw10 ovc10 ovd10 ovg10 ovf10
    generalize w10.drewN q11 = w11 at *
    clear ovf11 hvf
    go_wp2_with fail
    refine (markBidS_any w11 _ (1) vc _ ovc11 hnbs (by omega) (by omega)).mono ?_
    rintro e w12 ⟨rfl, g12, y12, ovc12⟩
    have z12 : w11.heap.size ≤ w12.heap.size := by omega
    have ovw12 := ovw11.keep (SameAt.of_grown g12 (GOwn.far ovc11 (fun g hg => by have := hvw g hg; omega)))
    have ovd12 := ovd11.keep (SameAt.of_grown g12 (own_far' ovd11 (fun g hg => by have := hvc g hg; omega)))
    have ovg12 := ovg11.keep (SameAt.of_grown g12 (own_far' ovg11 (fun g hg => by have := hvc g hg; omega)))
    have B12 := below_grownG B11 g12 ovc11 (by omega) (by omega)
    clear B11 ovc11 g12 ovw11 ovd11 ovg11
    clear ovc12 hvc
    go_wp2_with fail
    refine (markIntS_any w12 _ (1 + 3 * (bs.length : Nat)) vd _ ovd12 hnss (by omega) (by omega)).mono ?_
    rintro e w13 ⟨rfl, ovd13, g13, y13⟩
    have z13 : w12.heap.size ≤ w13.heap.size := by omega
    have ovw13 := ovw12.keep (SameAt.of_grown g13 (own_far ovd12 (fun g hg => by have := hvw g hg; omega)))
    have ovg13 := ovg12.keep (SameAt.of_grown g13 (own_far' ovg12 (fun g hg => by have := hvd g hg; omega)))
    have B13 := below_grown B12 g13 ovd12 (by omega) (by omega)
    clear B12 ovd12 g13 ovw12 ovg12
    clear ovd13 hvd
    go_wp2_with fail
    refine (eqIntS_any w13 vg vw _ _ (ovg13.rd) (ovw13.rd)).mono ?_
    rintro e w' ⟨q14, rfl, rfl⟩
    rw [decide_self]
    have z14 : w13.heap.size ≤ (w13.drewN q14).heap.size := Nat.le_refl _
    have B14 : Below w.heap.size w (w13.drewN q14) := below_drewN B13 q14
    have ovw14 : IOwn (w13.drewN q14) _ vw _ := ovw13
    have ovg14 : IOwn (w13.drewN q14) _ vg _ := ovg13
    clear B13 ovw13 ovg13
    generalize w13.drewN q14 = w14 at *
    go_wp2_with fail
    refine (markIntS_any w14 _ (1) vg _ ovg14 (by omega) (by omega) (by omega)).mono ?_
    rintro e w15 ⟨rfl, ovg15, g15, y15⟩
    have z15 : w14.heap.size ≤ w15.heap.size := by omega
    have ovw15 := ovw14.keep (SameAt.of_grown g15 (own_far ovg14 (fun g hg => by have := hvw g hg; omega)))
    have B15 := below_grown B14 g15 ovg14 (by omega) (by omega)
    clear B14 ovg14 g15 ovw14
    go_wp2_with fail
    refine (heldIntS_any w15 (1) vg _ (ovg15.rd) (by omega) (by omega) (by omega)).mono ?_
    rintro e w' ⟨rfl, rfl⟩
    go_wp2_with fail
    refine (toBidS_any w15 _ bs (HVbs.out.keep (SameAt.of_below B15)) hnbs).mono ?_
    rintro e w16 ⟨vh, rfl, ovh16, b16⟩
    have z16 := b16.size
    have hvh : ∀ g, vh.ownBlock = some g → g < w16.heap.size := fun g hg => (ovh16.ge g hg).2
    have B16 := below_step B15 b16 (by omega)
    have ovw16 := ovw15.keep (SameAt.of_below b16)
    have ovg16 := ovg15.keep (SameAt.of_below b16)
    clear B15 b16 ovw15 ovg15
    go_wp2_with fail
    refine (toIntS_any w16 _ ss (HVss.out.keep (SameAt.of_below B16)) hnss).mono ?_
    rintro e w17 ⟨vi, rfl, ovi17, b17⟩
    have z17 := b17.size
    have hvi : ∀ g, vi.ownBlock = some g → g < w17.heap.size := fun g hg => (ovi17.ge g hg).2
    have B17 := below_step B16 b17 (by omega)
    have ovw17 := ovw16.keep (SameAt.of_below b17)
    have ovg17 := ovg16.keep (SameAt.of_below b17)
    have ovh17 := ovh16.keep (SameAt.of_below b17)
    clear B16 b17 ovw16 ovg16 ovh16
    go_wp2_with fail
    refine (implTakerGain_any w17 n vh vi bs ss (ovh17.rd bC_len) (ovi17.rd)).mono ?_
    rintro e w18 ⟨vj, rfl, ovj18, b18⟩
    rw [hb]
    have z18 := b18.size
    have hvj : ∀ g, vj.ownBlock = some g → g < w18.heap.size := fun g hg => (ovj18.ge g hg).2
    have B18 := below_step B17 b18 (by omega)
    have ovw18 := ovw17.keep (SameAt.of_below b18)
    have ovg18 := ovg17.keep (SameAt.of_below b18)
    have ovh18 := ovh17.keep (SameAt.of_below b18)
    have ovi18 := ovi17.keep (SameAt.of_below b18)
    clear B17 b18 ovw17 ovg17 ovh17 ovi17
    clear ovh18 hvh
    clear ovi18 hvi
    go_wp2_with fail
    refine (eqIntS_any w18 vj vw _ _ (ovj18.rd) (ovw18.rd)).mono ?_
    rintro e w' ⟨q19, rfl, rfl⟩
    rw [decide_self]
    have z19 : w18.heap.size ≤ (w18.drewN q19).heap.size := Nat.le_refl _
    have B19 : Below w.heap.size w (w18.drewN q19) := below_drewN B18 q19
    have ovw19 : IOwn (w18.drewN q19) _ vw _ := ovw18
    have ovg19 : IOwn (w18.drewN q19) _ vg _ := ovg18
    have ovj19 : IOwn (w18.drewN q19) _ vj _ := ovj18
    clear B18 ovw18 ovg18 ovj18
    generalize w18.drewN q19 = w19 at *
    go_wp2_with fail
    refine (heldIntS_any w19 (1) vg _ (ovg19.rd) (by omega) (by omega) (by omega)).mono ?_
    rintro e w' ⟨rfl, rfl⟩
    go_wp2_with fail
    go_ret
    exact ⟨rfl, B19⟩

theorem FnExactTakerGain_walk (a0 : Int) (v1 : Value) (z1 : List Bt) (a2 : Option Addr) (len2 cap2 : Nat) (z2 : List Int) (w : World) (w0 : (Lit.int .i64 a0).wf = true) (w1 : BRd w v1 z1) (w2 : IsRowC .i64 w a2 len2 cap2 z2) :
    Calls Try.prog 13 #[.int .i64 a0, v1, .slice a2 len2 cap2] w fun e w' => e = .returned (.bool true) ∧ Below w.heap.size w w' := by
  obtain ⟨xs2, h2⟩ := ird_of_row w2
  exact exactTakerGain_any w a0 v1 z1 _ xs2 w1 h2

set_option maxHeartbeats 4000000 in
theorem exactWinningStakes_any (w : World) (n : Int) (vbs : Value) (bs : List Bt) (hvbs : BRd w vbs bs) :
    Calls Try.prog 14 #[.int .i64 n, vbs] w fun e w' => e = .returned (.bool true) ∧ Below w.heap.size w w' := by
  obtain ⟨Abs, cbs, rfl, hlbs, hmbs⟩ := hvbs.form
  have HVbs := Lib.hid hvbs
  clear hvbs
  by_cases hbigbs : 1048576 < bs.length
  · skip
    go_enter Try.func14, Try.ntmps14
    go_wp2_with fail
    refine (szBidS_big w Abs bs.length cbs hbigbs (by omega)).mono ?_
    rintro e w' ⟨rfl, rfl⟩
    go_wp2_with fail
    go_ret
    exact ⟨rfl, Below.refl _ _⟩
  have hnbs : bs.length ≤ 1048576 := by omega
  have hnbs' : (bs.length : Int) ≤ 1048576 := by omega
  have hL := win_len n bs
  obtain ⟨b, hb⟩ : ∃ b, winOk n bs = b := ⟨_, rfl⟩
  go_enter Try.func14, Try.ntmps14
  go_wp2_with fail
  have B0 : Below w.heap.size w w := Below.refl _ _
  have z0 : w.heap.size ≤ w.heap.size := Nat.le_refl _
  go_wp2_with fail
  refine (szBidS_small w Abs bs.length cbs hnbs).mono ?_
  rintro e w' ⟨rfl, rfl⟩
  go_wp2_with fail
  refine (toBidS_any w _ bs (HVbs.out.keep (SameAt.of_below B0)) hnbs).mono ?_
  rintro e w1 ⟨va, rfl, ova1, b1⟩
  have z1 := b1.size
  have hva : ∀ g, va.ownBlock = some g → g < w1.heap.size := fun g hg => (ova1.ge g hg).2
  have B1 := below_step B0 b1 (by omega)
  clear B0 b1
  go_wp2_with fail
  refine (specWinningStakes_any w1 n va bs (ova1.rd bC_len)).mono ?_
  rintro e w2 ⟨vw, rfl, ovw2, b2⟩
  rw [hb]
  have z2 := b2.size
  have hvw : ∀ g, vw.ownBlock = some g → g < w2.heap.size := fun g hg => (ovw2.ge g hg).2
  have B2 := below_step B1 b2 (by omega)
  have ova2 := ova1.keep (SameAt.of_below b2)
  clear B1 b2 ova1
  clear ova2 hva
  go_wp2_with fail
  refine (toBidS_any w2 _ bs (HVbs.out.keep (SameAt.of_below B2)) hnbs).mono ?_
  rintro e w3 ⟨vc, rfl, ovc3, b3⟩
  have z3 := b3.size
  have hvc : ∀ g, vc.ownBlock = some g → g < w3.heap.size := fun g hg => (ovc3.ge g hg).2
  have B3 := below_step B2 b3 (by omega)
  have ovw3 := ovw2.keep (SameAt.of_below b3)
  clear B2 b3 ovw2
  go_wp2_with fail
  refine (implWinningStakes_any w3 n vc bs (ovc3.rd bC_len)).mono ?_
  rintro e w4 ⟨vg, rfl, ovg4, b4⟩
  rw [hb]
  have z4 := b4.size
  have hvg : ∀ g, vg.ownBlock = some g → g < w4.heap.size := fun g hg => (ovg4.ge g hg).2
  have B4 := below_step B3 b4 (by omega)
  have ovw4 := ovw3.keep (SameAt.of_below b4)
  have ovc4 := ovc3.keep (SameAt.of_below b4)
  clear B3 b4 ovw3 ovc3
  cases b
  all_goals
    go_wp2_with fail
    refine (eqIntS_any w4 vg vw _ _ (ovg4.rd) (ovw4.rd)).mono ?_
    rintro e w' ⟨q5, rfl, rfl⟩
    rw [decide_self]
    have z5 : w4.heap.size ≤ (w4.drewN q5).heap.size := Nat.le_refl _
    have B5 : Below w.heap.size w (w4.drewN q5) := below_drewN B4 q5
    have ovw5 : IOwn (w4.drewN q5) _ vw _ := ovw4
    have ovc5 : BOwn (w4.drewN q5) _ vc _ := ovc4
    have ovg5 : IOwn (w4.drewN q5) _ vg _ := ovg4
    clear B4 ovw4 ovc4 ovg4
    generalize w4.drewN q5 = w5 at *
    go_wp2_with fail
    refine (toBidS_any w5 _ bs (HVbs.out.keep (SameAt.of_below B5)) hnbs).mono ?_
    rintro e w6 ⟨ve, rfl, ove6, b6⟩
    have z6 := b6.size
    have hve : ∀ g, ve.ownBlock = some g → g < w6.heap.size := fun g hg => (ove6.ge g hg).2
    have B6 := below_step B5 b6 (by omega)
    have ovw6 := ovw5.keep (SameAt.of_below b6)
    have ovc6 := ovc5.keep (SameAt.of_below b6)
    have ovg6 := ovg5.keep (SameAt.of_below b6)
    clear B5 b6 ovw5 ovc5 ovg5
    go_wp2_with fail
    refine (eqBidS_any w6 vc ve _ _ (ovc6.rd bC_len) (ove6.rd bC_len)).mono ?_
    rintro e w7 ⟨rfl, b7⟩
    rw [show ∀ x : List Bt, decide (x = x) = true from fun x => by simp]
    have z7 := b7.size
    have B7 := below_step B6 b7 (by omega)
    have ovw7 := ovw6.keep (SameAt.of_below b7)
    have ovc7 := ovc6.keep (SameAt.of_below b7)
    have ovg7 := ovg6.keep (SameAt.of_below b7)
    have ove7 := ove6.keep (SameAt.of_below b7)
    clear B6 b7 ovw6 ovc6 ovg6 ove6
    clear ove7 hve
    go_wp2_with fail
    refine (markBidS_any w7 _ (1) vc _ ovc7 hnbs (by omega) (by omega)).mono ?_
    rintro e w8 ⟨rfl, g8, y8, ovc8⟩
    have z8 : w7.heap.size ≤ w8.heap.size := by omega
    have ovw8 := ovw7.keep (SameAt.of_grown g8 (GOwn.far ovc7 (fun g hg => by have := hvw g hg; omega)))
    have ovg8 := ovg7.keep (SameAt.of_grown g8 (own_far' ovg7 (fun g hg => by have := hvc g hg; omega)))
    have B8 := below_grownG B7 g8 ovc7 (by omega) (by omega)
    clear B7 ovc7 g8 ovw7 ovg7
    clear ovc8 hvc
    go_wp2_with fail
    refine (eqIntS_any w8 vg vw _ _ (ovg8.rd) (ovw8.rd)).mono ?_
    rintro e w' ⟨q9, rfl, rfl⟩
    rw [decide_self]
    have z9 : w8.heap.size ≤ (w8.drewN q9).heap.size := Nat.le_refl _
    have B9 : Below w.heap.size w (w8.drewN q9) := below_drewN B8 q9
    have ovw9 : IOwn (w8.drewN q9) _ vw _ := ovw8
    have ovg9 : IOwn (w8.drewN q9) _ vg _ := ovg8
    clear B8 ovw8 ovg8
    generalize w8.drewN q9 = w9 at *
    go_wp2_with fail
    refine (markIntS_any w9 _ (1) vg _ ovg9 (by omega) (by omega) (by omega)).mono ?_
    rintro e w10 ⟨rfl, ovg10, g10, y10⟩
    have z10 : w9.heap.size ≤ w10.heap.size := by omega
    have ovw10 := ovw9.keep (SameAt.of_grown g10 (own_far ovg9 (fun g hg => by have := hvw g hg; omega)))
    have B10 := below_grown B9 g10 ovg9 (by omega) (by omega)
    clear B9 ovg9 g10 ovw9
    go_wp2_with fail
    refine (heldIntS_any w10 (1) vg _ (ovg10.rd) (by omega) (by omega) (by omega)).mono ?_
    rintro e w' ⟨rfl, rfl⟩
    go_wp2_with fail
    refine (toBidS_any w10 _ bs (HVbs.out.keep (SameAt.of_below B10)) hnbs).mono ?_
    rintro e w11 ⟨vh, rfl, ovh11, b11⟩
    have z11 := b11.size
    have hvh : ∀ g, vh.ownBlock = some g → g < w11.heap.size := fun g hg => (ovh11.ge g hg).2
    have B11 := below_step B10 b11 (by omega)
    have ovw11 := ovw10.keep (SameAt.of_below b11)
    have ovg11 := ovg10.keep (SameAt.of_below b11)
    clear B10 b11 ovw10 ovg10
    go_wp2_with fail
    refine (implWinningStakes_any w11 n vh bs (ovh11.rd bC_len)).mono ?_
    rintro e w12 ⟨vj, rfl, ovj12, b12⟩
    rw [hb]
    have z12 := b12.size
    have hvj : ∀ g, vj.ownBlock = some g → g < w12.heap.size := fun g hg => (ovj12.ge g hg).2
    have B12 := below_step B11 b12 (by omega)
    have ovw12 := ovw11.keep (SameAt.of_below b12)
    have ovg12 := ovg11.keep (SameAt.of_below b12)
    have ovh12 := ovh11.keep (SameAt.of_below b12)
    clear B11 b12 ovw11 ovg11 ovh11
    clear ovh12 hvh
    go_wp2_with fail
    refine (eqIntS_any w12 vj vw _ _ (ovj12.rd) (ovw12.rd)).mono ?_
    rintro e w' ⟨q13, rfl, rfl⟩
    rw [decide_self]
    have z13 : w12.heap.size ≤ (w12.drewN q13).heap.size := Nat.le_refl _
    have B13 : Below w.heap.size w (w12.drewN q13) := below_drewN B12 q13
    have ovw13 : IOwn (w12.drewN q13) _ vw _ := ovw12
    have ovg13 : IOwn (w12.drewN q13) _ vg _ := ovg12
    have ovj13 : IOwn (w12.drewN q13) _ vj _ := ovj12
    clear B12 ovw12 ovg12 ovj12
    generalize w12.drewN q13 = w13 at *
    go_wp2_with fail
    refine (heldIntS_any w13 (1) vg _ (ovg13.rd) (by omega) (by omega) (by omega)).mono ?_
    rintro e w' ⟨rfl, rfl⟩
    go_wp2_with fail
    go_ret
    exact ⟨rfl, B13⟩

theorem FnExactWinningStakes_walk (a0 : Int) (v1 : Value) (z1 : List Bt) (w : World) (w0 : (Lit.int .i64 a0).wf = true) (w1 : BRd w v1 z1) :
    Calls Try.prog 14 #[.int .i64 a0, v1] w fun e w' => e = .returned (.bool true) ∧ Below w.heap.size w w' := by
  exact exactWinningStakes_any w a0 v1 z1 w1

end Go.Proofs.Ytodmgcbcacblbaa
