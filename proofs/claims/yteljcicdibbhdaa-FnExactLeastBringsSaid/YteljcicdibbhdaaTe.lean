/- The walks of the exact laws of chapter 6. Conditions: stated at each. -/
import Derived.Test.YteljcicdibbhdaaTn
import Derived.Test.YteljcicdibbhdaaQf
import Derived.Test.YteljcicdibbhdaaRh
namespace Go.Proofs.Yteljcicdibbhdaa
open Go.RowKit
set_option linter.unusedVariables false

set_option maxHeartbeats 4000000 in
theorem exactLeastOn_any (w : World) (n : Int) (vqs : Value) (qs : List Qt) (e : Int) (hvqs : QRd w vqs qs) :
    Calls Try.prog 9 #[.int .i64 n, vqs, .int .i64 e] w fun e w' => e = .returned (.bool true) ∧ Below w.heap.size w w' := by
  obtain ⟨Aqs, cqs, rfl, hlqs, hmqs⟩ := hvqs.form
  have HVqs := Lib.hid hvqs
  clear hvqs
  by_cases hbigqs : 1048576 < qs.length
  · skip
    go_enter Try.func9, Try.ntmps9
    go_wp2_with fail
    refine (szQuoteS_big w Aqs qs.length cqs hbigqs (by omega)).mono ?_
    rintro e w' ⟨rfl, rfl⟩
    go_wp2_with fail
    go_ret
    exact ⟨rfl, Below.refl _ _⟩
  have hnqs : qs.length ≤ 1048576 := by omega
  have hnqs' : (qs.length : Int) ≤ 1048576 := by omega
  obtain ⟨t, ht⟩ : ∃ t, leastB n qs e = t := ⟨_, rfl⟩
  go_enter Try.func9, Try.ntmps9
  go_wp2_with fail
  have B0 : Below w.heap.size w w := Below.refl _ _
  have z0 : w.heap.size ≤ w.heap.size := Nat.le_refl _
  go_wp2_with fail
  refine (szQuoteS_small w Aqs qs.length cqs hnqs).mono ?_
  rintro e w' ⟨rfl, rfl⟩
  go_wp2_with fail
  refine (toQuoteS_any w _ qs (HVqs.out.keep (SameAt.of_below B0)) hnqs).mono ?_
  rintro e w1 ⟨va, rfl, ova1, b1⟩
  have z1 := b1.size
  have hva : ∀ g, va.ownBlock = some g → g < w1.heap.size := fun g hg => (ova1.ge g hg).2
  have B1 := below_step B0 b1 (by omega)
  clear B0 b1
  go_wp2_with fail
  refine (specLeastOn_any w1 n va qs e (ova1.rd qC_len)).mono ?_
  rintro e w2 ⟨rfl, b2⟩
  rw [ht]
  have z2 := b2.size
  have B2 := below_step B1 b2 (by omega)
  have ova2 := ova1.keep (SameAt.of_below b2)
  clear B1 b2 ova1
  clear ova2 hva
  go_wp2_with fail
  refine (toQuoteS_any w2 _ qs (HVqs.out.keep (SameAt.of_below B2)) hnqs).mono ?_
  rintro e w3 ⟨vc, rfl, ovc3, b3⟩
  have z3 := b3.size
  have hvc : ∀ g, vc.ownBlock = some g → g < w3.heap.size := fun g hg => (ovc3.ge g hg).2
  have B3 := below_step B2 b3 (by omega)
  clear B2 b3
  go_wp2_with fail
  refine (implLeastOn_any w3 n vc qs e (ovc3.rd qC_len)).mono ?_
  rintro e w4 ⟨rfl, b4⟩
  rw [ht]
  have z4 := b4.size
  have B4 := below_step B3 b4 (by omega)
  have ovc4 := ovc3.keep (SameAt.of_below b4)
  clear B3 b4 ovc3
  go_wp2_with fail
  refine (toQuoteS_any w4 _ qs (HVqs.out.keep (SameAt.of_below B4)) hnqs).mono ?_
  rintro e w5 ⟨ve, rfl, ove5, b5⟩
  have z5 := b5.size
  have hve : ∀ g, ve.ownBlock = some g → g < w5.heap.size := fun g hg => (ove5.ge g hg).2
  have B5 := below_step B4 b5 (by omega)
  have ovc5 := ovc4.keep (SameAt.of_below b5)
  clear B4 b5 ovc4
  go_wp2_with fail
  refine (eqQuoteS_any w5 vc ve _ _ (ovc5.rd qC_len) (ove5.rd qC_len)).mono ?_
  rintro e w6 ⟨rfl, b6⟩
  rw [show ∀ x : List Qt, decide (x = x) = true from fun x => by simp]
  have z6 := b6.size
  have B6 := below_step B5 b6 (by omega)
  have ovc6 := ovc5.keep (SameAt.of_below b6)
  have ove6 := ove5.keep (SameAt.of_below b6)
  clear B5 b6 ovc5 ove5
  go_wp2_with fail
  go_ret
  exact ⟨rfl, B6⟩

theorem FnExactLeastOn_walk (a0 : Int) (v1 : Value) (z1 : List Qt) (a2 : Int) (w : World) (w0 : (Lit.int .i64 a0).wf = true) (w1 : QRd w v1 z1) (w2 : (Lit.int .i64 a2).wf = true) :
    Calls Try.prog 9 #[.int .i64 a0, v1, .int .i64 a2] w fun e w' => e = .returned (.bool true) ∧ Below w.heap.size w w' := by
  exact exactLeastOn_any w a0 v1 z1 a2 w1

set_option maxHeartbeats 4000000 in
theorem exactMostOn_any (w : World) (n : Int) (vqs : Value) (qs : List Qt) (e : Int) (hvqs : QRd w vqs qs) :
    Calls Try.prog 10 #[.int .i64 n, vqs, .int .i64 e] w fun e w' => e = .returned (.bool true) ∧ Below w.heap.size w w' := by
  obtain ⟨Aqs, cqs, rfl, hlqs, hmqs⟩ := hvqs.form
  have HVqs := Lib.hid hvqs
  clear hvqs
  by_cases hbigqs : 1048576 < qs.length
  · skip
    go_enter Try.func10, Try.ntmps10
    go_wp2_with fail
    refine (szQuoteS_big w Aqs qs.length cqs hbigqs (by omega)).mono ?_
    rintro e w' ⟨rfl, rfl⟩
    go_wp2_with fail
    go_ret
    exact ⟨rfl, Below.refl _ _⟩
  have hnqs : qs.length ≤ 1048576 := by omega
  have hnqs' : (qs.length : Int) ≤ 1048576 := by omega
  obtain ⟨t, ht⟩ : ∃ t, mostB n qs e = t := ⟨_, rfl⟩
  go_enter Try.func10, Try.ntmps10
  go_wp2_with fail
  have B0 : Below w.heap.size w w := Below.refl _ _
  have z0 : w.heap.size ≤ w.heap.size := Nat.le_refl _
  go_wp2_with fail
  refine (szQuoteS_small w Aqs qs.length cqs hnqs).mono ?_
  rintro e w' ⟨rfl, rfl⟩
  go_wp2_with fail
  refine (toQuoteS_any w _ qs (HVqs.out.keep (SameAt.of_below B0)) hnqs).mono ?_
  rintro e w1 ⟨va, rfl, ova1, b1⟩
  have z1 := b1.size
  have hva : ∀ g, va.ownBlock = some g → g < w1.heap.size := fun g hg => (ova1.ge g hg).2
  have B1 := below_step B0 b1 (by omega)
  clear B0 b1
  go_wp2_with fail
  refine (specMostOn_any w1 n va qs e (ova1.rd qC_len)).mono ?_
  rintro e w2 ⟨rfl, b2⟩
  rw [ht]
  have z2 := b2.size
  have B2 := below_step B1 b2 (by omega)
  have ova2 := ova1.keep (SameAt.of_below b2)
  clear B1 b2 ova1
  clear ova2 hva
  go_wp2_with fail
  refine (toQuoteS_any w2 _ qs (HVqs.out.keep (SameAt.of_below B2)) hnqs).mono ?_
  rintro e w3 ⟨vc, rfl, ovc3, b3⟩
  have z3 := b3.size
  have hvc : ∀ g, vc.ownBlock = some g → g < w3.heap.size := fun g hg => (ovc3.ge g hg).2
  have B3 := below_step B2 b3 (by omega)
  clear B2 b3
  go_wp2_with fail
  refine (implMostOn_any w3 n vc qs e (ovc3.rd qC_len)).mono ?_
  rintro e w4 ⟨rfl, b4⟩
  rw [ht]
  have z4 := b4.size
  have B4 := below_step B3 b4 (by omega)
  have ovc4 := ovc3.keep (SameAt.of_below b4)
  clear B3 b4 ovc3
  go_wp2_with fail
  refine (toQuoteS_any w4 _ qs (HVqs.out.keep (SameAt.of_below B4)) hnqs).mono ?_
  rintro e w5 ⟨ve, rfl, ove5, b5⟩
  have z5 := b5.size
  have hve : ∀ g, ve.ownBlock = some g → g < w5.heap.size := fun g hg => (ove5.ge g hg).2
  have B5 := below_step B4 b5 (by omega)
  have ovc5 := ovc4.keep (SameAt.of_below b5)
  clear B4 b5 ovc4
  go_wp2_with fail
  refine (eqQuoteS_any w5 vc ve _ _ (ovc5.rd qC_len) (ove5.rd qC_len)).mono ?_
  rintro e w6 ⟨rfl, b6⟩
  rw [show ∀ x : List Qt, decide (x = x) = true from fun x => by simp]
  have z6 := b6.size
  have B6 := below_step B5 b6 (by omega)
  have ovc6 := ovc5.keep (SameAt.of_below b6)
  have ove6 := ove5.keep (SameAt.of_below b6)
  clear B5 b6 ovc5 ove5
  go_wp2_with fail
  go_ret
  exact ⟨rfl, B6⟩

theorem FnExactMostOn_walk (a0 : Int) (v1 : Value) (z1 : List Qt) (a2 : Int) (w : World) (w0 : (Lit.int .i64 a0).wf = true) (w1 : QRd w v1 z1) (w2 : (Lit.int .i64 a2).wf = true) :
    Calls Try.prog 10 #[.int .i64 a0, v1, .int .i64 a2] w fun e w' => e = .returned (.bool true) ∧ Below w.heap.size w w' := by
  exact exactMostOn_any w a0 v1 z1 a2 w1

set_option maxHeartbeats 4000000 in
theorem exactPinnedOk_any (w : World) (n : Int) (vqs : Value) (qs : List Qt) (e : Int) (hvqs : QRd w vqs qs) :
    Calls Try.prog 11 #[.int .i64 n, vqs, .int .i64 e] w fun e w' => e = .returned (.bool true) ∧ Below w.heap.size w w' := by
  obtain ⟨Aqs, cqs, rfl, hlqs, hmqs⟩ := hvqs.form
  have HVqs := Lib.hid hvqs
  clear hvqs
  by_cases hbigqs : 1048576 < qs.length
  · skip
    go_enter Try.func11, Try.ntmps11
    go_wp2_with fail
    refine (szQuoteS_big w Aqs qs.length cqs hbigqs (by omega)).mono ?_
    rintro e w' ⟨rfl, rfl⟩
    go_wp2_with fail
    go_ret
    exact ⟨rfl, Below.refl _ _⟩
  have hnqs : qs.length ≤ 1048576 := by omega
  have hnqs' : (qs.length : Int) ≤ 1048576 := by omega
  obtain ⟨t, ht⟩ : ∃ t, pinnedB n qs e = t := ⟨_, rfl⟩
  go_enter Try.func11, Try.ntmps11
  go_wp2_with fail
  have B0 : Below w.heap.size w w := Below.refl _ _
  have z0 : w.heap.size ≤ w.heap.size := Nat.le_refl _
  go_wp2_with fail
  refine (szQuoteS_small w Aqs qs.length cqs hnqs).mono ?_
  rintro e w' ⟨rfl, rfl⟩
  go_wp2_with fail
  refine (toQuoteS_any w _ qs (HVqs.out.keep (SameAt.of_below B0)) hnqs).mono ?_
  rintro e w1 ⟨va, rfl, ova1, b1⟩
  have z1 := b1.size
  have hva : ∀ g, va.ownBlock = some g → g < w1.heap.size := fun g hg => (ova1.ge g hg).2
  have B1 := below_step B0 b1 (by omega)
  clear B0 b1
  go_wp2_with fail
  refine (specPinnedOk_any w1 n va qs e (ova1.rd qC_len)).mono ?_
  rintro e w2 ⟨rfl, b2⟩
  rw [ht]
  have z2 := b2.size
  have B2 := below_step B1 b2 (by omega)
  have ova2 := ova1.keep (SameAt.of_below b2)
  clear B1 b2 ova1
  clear ova2 hva
  go_wp2_with fail
  refine (toQuoteS_any w2 _ qs (HVqs.out.keep (SameAt.of_below B2)) hnqs).mono ?_
  rintro e w3 ⟨vc, rfl, ovc3, b3⟩
  have z3 := b3.size
  have hvc : ∀ g, vc.ownBlock = some g → g < w3.heap.size := fun g hg => (ovc3.ge g hg).2
  have B3 := below_step B2 b3 (by omega)
  clear B2 b3
  go_wp2_with fail
  refine (implPinnedOk_any w3 n vc qs e (ovc3.rd qC_len)).mono ?_
  rintro e w4 ⟨rfl, b4⟩
  rw [ht]
  have z4 := b4.size
  have B4 := below_step B3 b4 (by omega)
  have ovc4 := ovc3.keep (SameAt.of_below b4)
  clear B3 b4 ovc3
  cases t
  all_goals
    go_wp2_with fail
    refine (toQuoteS_any w4 _ qs (HVqs.out.keep (SameAt.of_below B4)) hnqs).mono ?_
    rintro e w5 ⟨ve, rfl, ove5, b5⟩
    have z5 := b5.size
    have hve : ∀ g, ve.ownBlock = some g → g < w5.heap.size := fun g hg => (ove5.ge g hg).2
    have B5 := below_step B4 b5 (by omega)
    have ovc5 := ovc4.keep (SameAt.of_below b5)
    clear B4 b5 ovc4
    go_wp2_with fail
    refine (eqQuoteS_any w5 vc ve _ _ (ovc5.rd qC_len) (ove5.rd qC_len)).mono ?_
    rintro e w6 ⟨rfl, b6⟩
    rw [show ∀ x : List Qt, decide (x = x) = true from fun x => by simp]
    have z6 := b6.size
    have B6 := below_step B5 b6 (by omega)
    have ovc6 := ovc5.keep (SameAt.of_below b6)
    have ove6 := ove5.keep (SameAt.of_below b6)
    clear B5 b6 ovc5 ove5
    go_wp2_with fail
    go_ret
    exact ⟨rfl, B6⟩

theorem FnExactPinnedOk_walk (a0 : Int) (v1 : Value) (z1 : List Qt) (a2 : Int) (w : World) (w0 : (Lit.int .i64 a0).wf = true) (w1 : QRd w v1 z1) (w2 : (Lit.int .i64 a2).wf = true) :
    Calls Try.prog 11 #[.int .i64 a0, v1, .int .i64 a2] w fun e w' => e = .returned (.bool true) ∧ Below w.heap.size w w' := by
  exact exactPinnedOk_any w a0 v1 z1 a2 w1

set_option maxHeartbeats 4000000 in
theorem exactLeastBrings_any (w : World) (n : Int) (vqs : Value) (qs : List Qt) (vg : Value) (g : List Int) (hvqs : QRd w vqs qs) (hvg : IRd w vg g) :
    Calls Try.prog 13 #[.int .i64 n, vqs, vg] w fun e w' => e = .returned (.bool true) ∧ Below w.heap.size w w' := by
  obtain ⟨Aqs, cqs, rfl, hlqs, hmqs⟩ := hvqs.form
  have HVqs := Lib.hid hvqs
  clear hvqs
  obtain ⟨Ag, cg, rfl, hlg, hmg, -⟩ := id hvg
  have HVg := Lib.hid hvg
  clear hvg
  by_cases hbigg : 1048576 < g.length
  · have hbigg' : (1048576 : Int) < (g.length : Int) := by omega
    go_enter Try.func13, Try.ntmps13
    go_wp2_with fail
    go_ret
    exact ⟨rfl, Below.refl _ _⟩
  by_cases hbigqs : 1048576 < qs.length
  · skip
    have hsg' : (g.length : Int) ≤ 1048576 := by omega
    go_enter Try.func13, Try.ntmps13
    go_wp2_with fail
    refine (szQuoteS_big w Aqs qs.length cqs hbigqs (by omega)).mono ?_
    rintro e w' ⟨rfl, rfl⟩
    go_wp2_with fail
    go_ret
    exact ⟨rfl, Below.refl _ _⟩
  have hng : g.length ≤ 1048576 := by omega
  have hng' : (g.length : Int) ≤ 1048576 := by omega
  have hnqs : qs.length ≤ 1048576 := by omega
  have hnqs' : (qs.length : Int) ≤ 1048576 := by omega
  obtain ⟨t, ht⟩ : ∃ t, (lbP n qs g).1 = t := ⟨_, rfl⟩
  obtain ⟨b, hb⟩ : ∃ b, (lbP n qs g).2 = b := ⟨_, rfl⟩
  go_enter Try.func13, Try.ntmps13
  go_wp2_with fail
  have B0 : Below w.heap.size w w := Below.refl _ _
  have z0 : w.heap.size ≤ w.heap.size := Nat.le_refl _
  go_wp2_with fail
  refine (szQuoteS_small w Aqs qs.length cqs hnqs).mono ?_
  rintro e w' ⟨rfl, rfl⟩
  go_wp2_with fail
  refine (toQuoteS_any w _ qs (HVqs.out.keep (SameAt.of_below B0)) hnqs).mono ?_
  rintro e w1 ⟨va, rfl, ova1, b1⟩
  have z1 := b1.size
  have hva : ∀ g, va.ownBlock = some g → g < w1.heap.size := fun g hg => (ova1.ge g hg).2
  have B1 := below_step B0 b1 (by omega)
  clear B0 b1
  go_wp2_with fail
  refine (toIntS_any w1 _ g (HVg.out.keep (SameAt.of_below B1)) hng).mono ?_
  rintro e w2 ⟨vb, rfl, ovb2, b2⟩
  have z2 := b2.size
  have hvb : ∀ g, vb.ownBlock = some g → g < w2.heap.size := fun g hg => (ovb2.ge g hg).2
  have B2 := below_step B1 b2 (by omega)
  have ova2 := ova1.keep (SameAt.of_below b2)
  clear B1 b2 ova1
  go_wp2_with fail
  refine (specLeastBrings_any w2 n va vb qs g (ova2.rd qC_len) (ovb2.rd)).mono ?_
  rintro e w3 ⟨rfl, b3⟩
  rw [ht, hb]
  have z3 := b3.size
  have B3 := below_step B2 b3 (by omega)
  have ova3 := ova2.keep (SameAt.of_below b3)
  have ovb3 := ovb2.keep (SameAt.of_below b3)
  clear B2 b3 ova2 ovb2
  clear ova3 hva
  clear ovb3 hvb
  go_wp2_with fail
  refine (toQuoteS_any w3 _ qs (HVqs.out.keep (SameAt.of_below B3)) hnqs).mono ?_
  rintro e w4 ⟨vc, rfl, ovc4, b4⟩
  have z4 := b4.size
  have hvc : ∀ g, vc.ownBlock = some g → g < w4.heap.size := fun g hg => (ovc4.ge g hg).2
  have B4 := below_step B3 b4 (by omega)
  clear B3 b4
  go_wp2_with fail
  refine (toIntS_any w4 _ g (HVg.out.keep (SameAt.of_below B4)) hng).mono ?_
  rintro e w5 ⟨vd, rfl, ovd5, b5⟩
  have z5 := b5.size
  have hvd : ∀ g, vd.ownBlock = some g → g < w5.heap.size := fun g hg => (ovd5.ge g hg).2
  have B5 := below_step B4 b5 (by omega)
  have ovc5 := ovc4.keep (SameAt.of_below b5)
  clear B4 b5 ovc4
  go_wp2_with fail
  refine (implLeastBrings_any w5 n vc vd qs g (ovc5.rd qC_len) (ovd5.rd)).mono ?_
  rintro e w6 ⟨rfl, b6⟩
  rw [ht, hb]
  have z6 := b6.size
  have B6 := below_step B5 b6 (by omega)
  have ovc6 := ovc5.keep (SameAt.of_below b6)
  have ovd6 := ovd5.keep (SameAt.of_below b6)
  clear B5 b6 ovc5 ovd5
  cases b
  all_goals
    go_wp2_with fail
    refine (toQuoteS_any w6 _ qs (HVqs.out.keep (SameAt.of_below B6)) hnqs).mono ?_
    rintro e w7 ⟨ve, rfl, ove7, b7⟩
    have z7 := b7.size
    have hve : ∀ g, ve.ownBlock = some g → g < w7.heap.size := fun g hg => (ove7.ge g hg).2
    have B7 := below_step B6 b7 (by omega)
    have ovc7 := ovc6.keep (SameAt.of_below b7)
    have ovd7 := ovd6.keep (SameAt.of_below b7)
    clear B6 b7 ovc6 ovd6
    go_wp2_with fail
    refine (eqQuoteS_any w7 vc ve _ _ (ovc7.rd qC_len) (ove7.rd qC_len)).mono ?_
    rintro e w8 ⟨rfl, b8⟩
    rw [show ∀ x : List Qt, decide (x = x) = true from fun x => by simp]
    have z8 := b8.size
    have B8 := below_step B7 b8 (by omega)
    have ovc8 := ovc7.keep (SameAt.of_below b8)
    have ovd8 := ovd7.keep (SameAt.of_below b8)
    have ove8 := ove7.keep (SameAt.of_below b8)
    clear B7 b8 ovc7 ovd7 ove7
    clear ove8 hve
    go_wp2_with fail
    refine (toIntS_any w8 _ g (HVg.out.keep (SameAt.of_below B8)) hng).mono ?_
    rintro e w9 ⟨vf, rfl, ovf9, b9⟩
    have z9 := b9.size
    have hvf : ∀ g, vf.ownBlock = some g → g < w9.heap.size := fun g hg => (ovf9.ge g hg).2
    have B9 := below_step B8 b9 (by omega)
    have ovc9 := ovc8.keep (SameAt.of_below b9)
    have ovd9 := ovd8.keep (SameAt.of_below b9)
    clear B8 b9 ovc8 ovd8
    go_wp2_with fail
    refine (eqIntS_any w9 vd vf _ _ (ovd9.rd) (ovf9.rd)).mono ?_
    rintro e w' ⟨q10, rfl, rfl⟩
    rw [decide_self]
    have z10 : w9.heap.size ≤ (w9.drewN q10).heap.size := Nat.le_refl _
    have B10 : Below w.heap.size w (w9.drewN q10) := below_drewN B9 q10
    have ovc10 : QOwn (w9.drewN q10) _ vc _ := ovc9
    have ovd10 : IOwn (w9.drewN q10) _ vd _ := ovd9
    have ovf10 : IOwn (w9.drewN q10) _ vf _ := ovf9
    clear B9 ovc9 ovd9 ovf9
    generalize w9.drewN q10 = w10 at *
    go_wp2_with fail
    go_ret
    exact ⟨rfl, B10⟩

theorem FnExactLeastBrings_walk (a0 : Int) (v1 : Value) (z1 : List Qt) (a2 : Option Addr) (len2 cap2 : Nat) (z2 : List Int) (w : World) (w0 : (Lit.int .i64 a0).wf = true) (w1 : QRd w v1 z1) (w2 : IsRowC .i64 w a2 len2 cap2 z2) :
    Calls Try.prog 13 #[.int .i64 a0, v1, .slice a2 len2 cap2] w fun e w' => e = .returned (.bool true) ∧ Below w.heap.size w w' := by
  obtain ⟨xs2, h2⟩ := ird_of_row w2
  exact exactLeastBrings_any w a0 v1 z1 _ xs2 w1 h2

/-- the cells of a quote that was handed over to a law, in any world behind -/
theorem law_cells6 {W wr : World} {a b : Int} (h : Below (W.alloc (.cells #[.int .i64 a, .int .i64 b] 53)).heap.size (W.alloc (.cells #[.int .i64 a, .int .i64 b] 53)) wr) :
    wr.cell? ⟨W.heap.size, 0, none⟩ = some (.int .i64 a) ∧ wr.cell? ⟨W.heap.size, 1, none⟩ = some (.int .i64 b) := by
  have hb := h.block W.heap.size (by simp)
  have hn : (W.alloc (.cells #[.int .i64 a, .int .i64 b] 53)).heap[W.heap.size]? = some (.cells #[.int .i64 a, .int .i64 b] 53) := heap_alloc_new W _
  have hB : Blk wr W.heap.size 53 #[.int .i64 a, .int .i64 b] := hb.trans hn
  exact ⟨hB.cell 0, hB.cell 1⟩

set_option maxHeartbeats 4000000 in
theorem exactFurtherOk_any (W : World) (n : Int) (vqs : Value) (qs : List Qt) (q : Qt) (hvqs : QRd W vqs qs) :
    Calls Try.prog 12 #[.int .i64 n, vqs, qV q] W fun e w' => e = .returned (.bool true) ∧ Below W.heap.size W w' := by
  obtain ⟨a, b⟩ := q
  obtain ⟨Aqs, cqs, rfl, hlqs, hmqs⟩ := hvqs.form
  have HC : Hid (∀ wr, Below (W.alloc (.cells #[.int .i64 a, .int .i64 b] 53)).heap.size (W.alloc (.cells #[.int .i64 a, .int .i64 b] 53)) wr → wr.cell? ⟨W.heap.size, 0, none⟩ = some (.int .i64 a) ∧ wr.cell? ⟨W.heap.size, 1, none⟩ = some (.int .i64 b)) := Lib.hid (fun wr h => law_cells6 h)
  have HW : Hid (Below W.heap.size W (W.alloc (.cells #[.int .i64 a, .int .i64 b] 53))) := Lib.hid ((Below.refl _ _).alloc (Nat.le_refl _) _)
  have HVqs : Hid (QRd (W.alloc (.cells #[.int .i64 a, .int .i64 b] 53)) (.slice Aqs qs.length cqs) qs) := Lib.hid (hvqs.keep (SameAt.of_below HW.out))
  clear hvqs
  obtain ⟨t, ht⟩ : ∃ t, furB n qs (a, b) = t := ⟨_, rfl⟩
  show Calls _ _ #[.int .i64 n, .slice Aqs qs.length cqs, .agg #[.int .i64 a, .int .i64 b]] _ _
  by_cases hbig : 1048576 < qs.length
  · go_enter Try.func12, Try.ntmps12
    go_wp2_with fail
    refine (szQuoteS_big _ Aqs qs.length cqs hbig (by omega)).mono ?_
    rintro e w' ⟨rfl, rfl⟩
    go_wp2_with fail
    go_ret
    exact ⟨rfl, HW.out⟩
  have hnqs : qs.length ≤ 1048576 := by omega
  have hnqs' : (qs.length : Int) ≤ 1048576 := by omega
  go_enter Try.func12, Try.ntmps12
  go_wp2_with fail
  generalize W.alloc (.cells #[.int .i64 a, .int .i64 b] 53) = w at HC HW HVqs ⊢
  refine (szQuoteS_small w Aqs qs.length cqs hnqs).mono ?_
  rintro e w' ⟨rfl, rfl⟩
  go_wp2_with fail
  have b0 : Below w.heap.size w w.drew := (Below.refl _ _).drew
  refine wp_region_held_drew (S := fun w' => w'.cell? ⟨W.heap.size, 0, none⟩ = some (.int .i64 a) ∧ w'.cell? ⟨W.heap.size, 1, none⟩ = some (.int .i64 b)) (by kernel_rfl) (HC.out w.drew b0) (fun hHeld => ?_)
  refine take_in (i := 0) (v := ?vx0) rfl (by kernel_rfl) (fun _ _ _ h => h) rfl ?hx0 hHeld ?rx0
  case hx0 => (intro w hSw; go_simp; all_goals with_reducible rfl)
  try simp only [Act.put, List.setIfInBounds_toArray, List.set_cons_zero, List.set_cons_succ]
  refine take_in (i := 1) (v := ?vx1) rfl (by kernel_rfl) (fun _ _ _ h => h) rfl ?hx1 hHeld ?rx1
  case hx1 => (intro w hSw; go_simp; all_goals with_reducible rfl)
  try simp only [Act.put, List.setIfInBounds_toArray, List.set_cons_zero, List.set_cons_succ]
  refine take_in (i := 3) (v := ?vx3) rfl (by kernel_rfl) (fun _ _ _ h => h) rfl ?hx3 hHeld ?rx3
  case hx3 => (intro w hSw; go_simp; all_goals with_reducible rfl)
  try simp only [Act.put, List.setIfInBounds_toArray, List.set_cons_zero, List.set_cons_succ]
  refine wpAnyH_ready (rs := [2]) (by kernel_rfl) (by simp) ?_
  refine AllReadyH.cons rfl (fun K hK => ?_) AllReadyH.nil
  go_simp
  go_at_call 40
  refine (toQuoteS_any w.drew _ qs (HVqs.out.keep (SameAt.of_below b0)) hnqs).mono ?_
  rintro e w1 ⟨va, rfl, oa1, b1⟩
  have z1 := b1.size
  have B1 : Below w.heap.size w w1 := below_step b0 b1 (Nat.le_refl _)
  refine hK.out _ _ (HC.out w1 B1) (fun hHeld => ?_)
  clear hK K b1
  refine wpAnyH_ready (rs := [4]) (by kernel_rfl) (by simp) ?_
  refine AllReadyH.cons rfl (fun K hK => ?_) AllReadyH.nil
  go_simp
  go_at_call 42
  refine (toQuote_any (a, b) w1).mono ?_
  rintro e w2 ⟨rfl, b2⟩
  unfold qV
  have z2 := b2.size
  have B2 : Below w.heap.size w w2 := below_step B1 b2 B1.size
  have oa2 := oa1.keep (SameAt.of_below b2)
  refine hK.out _ _ (HC.out w2 B2) (fun hHeld => ?_)
  clear hK K b2 oa1
  refine wpAnyH_ready (rs := [5]) (by kernel_rfl) (by simp) ?_
  refine AllReadyH.cons rfl (fun K hK => ?_) AllReadyH.nil
  go_simp
  go_at_call 32
  refine (specFurtherOk_any w2 n va qs (a, b) (oa2.rd qC_len)).mono ?_
  rintro e w3 ⟨rfl, b3⟩
  rw [ht]
  have z3 : w.heap.size ≤ w3.heap.size := Nat.le_trans B2.size b3.size
  have B3 : Below w.heap.size w w3 := below_step B2 b3 B2.size
  refine hK.out _ _ (HC.out w3 B3) (fun hHeld => ?_)
  clear hK K b3 oa2 B2 B1 b0
  refine take_in (i := 6) (v := ?vx6) rfl (by kernel_rfl) (fun _ _ _ h => h) rfl ?hx6 hHeld ?rx6
  case hx6 => (intro w hSw; go_simp; all_goals with_reducible rfl)
  try simp only [Act.put, List.setIfInBounds_toArray, List.set_cons_zero, List.set_cons_succ]
  refine wpAnyH_done (by kernel_rfl) ?_ _
  clear hHeld
  obtain ⟨hc0, hc1⟩ := HC.out w3 B3
  go_wp2_with fail
  refine (toQuoteS_any w3 _ qs (HVqs.out.keep (SameAt.of_below B3)) hnqs).mono ?_
  rintro e w4 ⟨vc, rfl, ovc4, b4⟩
  have z4 := b4.size
  have hvc : ∀ g, vc.ownBlock = some g → g < w4.heap.size := fun g hg => (ovc4.ge g hg).2
  have B4 := below_step B3 b4 (by omega)
  clear hc0 hc1
  clear B3 b4
  obtain ⟨hc0, hc1⟩ := HC.out w4 B4
  go_wp2_with fail
  refine (toQuote_any (a, b) _).mono ?_
  rintro e w5 ⟨rfl, b5⟩
  unfold qV
  have z5 := b5.size
  have B5 := below_step B4 b5 (by omega)
  have ovc5 := ovc4.keep (SameAt.of_below b5)
  clear hc0 hc1
  clear B4 b5 ovc4
  obtain ⟨hc0, hc1⟩ := HC.out w5 B5
  go_wp2_with fail
  refine (implFurtherOk_any w5 n vc qs (a, b) (ovc5.rd qC_len)).mono ?_
  rintro e w6 ⟨rfl, b6⟩
  rw [ht]
  have z6 := b6.size
  have B6 := below_step B5 b6 (by omega)
  have ovc6 := ovc5.keep (SameAt.of_below b6)
  clear hc0 hc1
  clear B5 b6 ovc5
  cases t
  all_goals
    obtain ⟨hc0, hc1⟩ := HC.out w6 B6
    go_wp2_with fail
    refine (toQuoteS_any w6 _ qs (HVqs.out.keep (SameAt.of_below B6)) hnqs).mono ?_
    rintro e w7 ⟨ve, rfl, ove7, b7⟩
    have z7 := b7.size
    have hve : ∀ g, ve.ownBlock = some g → g < w7.heap.size := fun g hg => (ove7.ge g hg).2
    have B7 := below_step B6 b7 (by omega)
    have ovc7 := ovc6.keep (SameAt.of_below b7)
    clear hc0 hc1
    clear B6 b7 ovc6
    obtain ⟨hc0, hc1⟩ := HC.out w7 B7
    go_wp2_with fail
    refine (eqQuoteS_any w7 vc ve _ _ (ovc7.rd qC_len) (ove7.rd qC_len)).mono ?_
    rintro e w8 ⟨rfl, b8⟩
    rw [show ∀ x : List Qt, decide (x = x) = true from fun x => by simp]
    have z8 := b8.size
    have B8 := below_step B7 b8 (by omega)
    have ovc8 := ovc7.keep (SameAt.of_below b8)
    have ove8 := ove7.keep (SameAt.of_below b8)
    clear hc0 hc1
    clear B7 b8 ovc7 ove7
    go_wp2_with fail
    go_ret
    exact ⟨rfl, below_step HW.out B8 HW.out.size⟩

theorem FnExactFurtherOk_walk (a0 : Int) (v1 : Value) (z1 : List Qt) (q2 : Qt) (w : World) (w0 : (Lit.int .i64 a0).wf = true) (w1 : QRd w v1 z1) :
    Calls Try.prog 12 #[.int .i64 a0, v1, qV q2] w fun e w' => e = .returned (.bool true) ∧ Below w.heap.size w w' :=
  exactFurtherOk_any w a0 v1 z1 q2 w1

end Go.Proofs.Yteljcicdibbhdaa
