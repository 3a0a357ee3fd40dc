/- The walks of the exact laws of chapter 4. Conditions: stated at each. -/
import Derived.Test.YtfjmlbcmidichaaNj
import Derived.Test.YtfjmlbcmidichaaMi
import Derived.Test.YtfjmlbcmidichaaQf
namespace Go.Proofs.Ytfjmlbcmidichaa
open Go.RowKit
set_option linter.unusedVariables false

theorem firstR_len (n : Int) (qs : List Qt) : (firstR n qs).length ≤ 4 := by
  unfold firstR
  split
  · next h =>
    obtain ⟨h1, h2⟩ := ((bokB_iff _ _).1 h).1
    cases hf : firstFit n.toNat qs with
    | none => simp
    | some l =>
      have hm := List.mem_of_find?_eq_some hf
      obtain ⟨k, hk⟩ : ∃ k, n.toNat = k + 1 := ⟨n.toNat - 1, by omega⟩
      rw [hk] at hm
      have := ((mem_lay k 36 l).1 hm).1
      simp only [Option.map_some, Option.getD_some, natL_len]
      omega
  · simp

theorem mixR_len (a b : List Int) : (mixR a b).length ≤ 4 := by
  unfold mixR
  split
  · next h =>
    have h1 := mix_mea h
    have := (grs_of h1.1).2
    exact this
  · simp

set_option maxHeartbeats 4000000 in
theorem exactFairOk_any (w : World) (n : Int) (vqs : Value) (qs : List Qt) (hvqs : QRd w vqs qs) :
    Calls Try.prog 7 #[.int .i64 n, vqs] w fun e w' => e = .returned (.bool true) ∧ Below w.heap.size w w' := by
  obtain ⟨Aqs, cqs, rfl, hlqs, hmqs⟩ := hvqs.form
  have HVqs := Lib.hid hvqs
  clear hvqs
  by_cases hbigqs : 1048576 < qs.length
  · skip
    go_enter Try.func7, Try.ntmps7
    go_wp2_with fail
    refine (szQuoteS_big w Aqs qs.length cqs hbigqs (by omega)).mono ?_
    rintro e w' ⟨rfl, rfl⟩
    go_wp2_with fail
    go_ret
    exact ⟨rfl, Below.refl _ _⟩
  have hnqs : qs.length ≤ 1048576 := by omega
  have hnqs' : (qs.length : Int) ≤ 1048576 := by omega
  obtain ⟨t, ht⟩ : ∃ t, fairB n qs = t := ⟨_, rfl⟩
  go_enter Try.func7, Try.ntmps7
  go_wp2_with fail
  have B0 : Below w.heap.size w w := Below.refl _ _
  have z0 : w.heap.size ≤ w.heap.size := Nat.le_refl _
  go_wp2_with fail
  refine (szQuoteS_small w Aqs qs.length cqs hnqs).mono ?_
  rintro e w' ⟨rfl, rfl⟩
  go_wp2_with fail
  refine (toQuoteS_any w _ qs (HVqs.out.keep (SameAt.of_below B0)) hnqs).mono ?_
  rintro e w1 ⟨va, rfl, ova1, b1⟩
  have z1 := b1.size
  have hva : ∀ g, va.ownBlock = some g → g < w1.heap.size := fun g hg => (ova1.ge g hg).2
  have B1 := below_step B0 b1 (by omega)
  clear B0 b1
  go_wp2_with fail
  refine (specFairOk_any w1 n va qs (ova1.rd qC_len)).mono ?_
  rintro e w2 ⟨rfl, b2⟩
  rw [ht]
  have z2 := b2.size
  have B2 := below_step B1 b2 (by omega)
  have ova2 := ova1.keep (SameAt.of_below b2)
  clear B1 b2 ova1
  clear ova2 hva
  go_wp2_with fail
  refine (toQuoteS_any w2 _ qs (HVqs.out.keep (SameAt.of_below B2)) hnqs).mono ?_
  rintro e w3 ⟨vc, rfl, ovc3, b3⟩
  have z3 := b3.size
  have hvc : ∀ g, vc.ownBlock = some g → g < w3.heap.size := fun g hg => (ovc3.ge g hg).2
  have B3 := below_step B2 b3 (by omega)
  clear B2 b3
  go_wp2_with fail
  refine (implFairOk_any w3 n vc qs (ovc3.rd qC_len)).mono ?_
  rintro e w4 ⟨rfl, b4⟩
  rw [ht]
  have z4 := b4.size
  have B4 := below_step B3 b4 (by omega)
  have ovc4 := ovc3.keep (SameAt.of_below b4)
  clear B3 b4 ovc3
  cases t
  all_goals
    go_wp2_with fail
    refine (toQuoteS_any w4 _ qs (HVqs.out.keep (SameAt.of_below B4)) hnqs).mono ?_
    rintro e w5 ⟨ve, rfl, ove5, b5⟩
    have z5 := b5.size
    have hve : ∀ g, ve.ownBlock = some g → g < w5.heap.size := fun g hg => (ove5.ge g hg).2
    have B5 := below_step B4 b5 (by omega)
    have ovc5 := ovc4.keep (SameAt.of_below b5)
    clear B4 b5 ovc4
    go_wp2_with fail
    refine (eqQuoteS_any w5 vc ve _ _ (ovc5.rd qC_len) (ove5.rd qC_len)).mono ?_
    rintro e w6 ⟨rfl, b6⟩
    rw [show ∀ x : List Qt, decide (x = x) = true from fun x => by simp]
    have z6 := b6.size
    have B6 := below_step B5 b6 (by omega)
    have ovc6 := ovc5.keep (SameAt.of_below b6)
    have ove6 := ove5.keep (SameAt.of_below b6)
    clear B5 b6 ovc5 ove5
    go_wp2_with fail
    go_ret
    exact ⟨rfl, B6⟩

theorem FnExactFairOk_walk (a0 : Int) (v1 : Value) (z1 : List Qt) (w : World) (w0 : (Lit.int .i64 a0).wf = true) (w1 : QRd w v1 z1) :
    Calls Try.prog 7 #[.int .i64 a0, v1] w fun e w' => e = .returned (.bool true) ∧ Below w.heap.size w w' := by
  exact exactFairOk_any w a0 v1 z1 w1

set_option maxHeartbeats 4000000 in
theorem exactCountMeasures_any (w : World) (n : Int) (vqs : Value) (qs : List Qt) (hvqs : QRd w vqs qs) :
    Calls Try.prog 8 #[.int .i64 n, vqs] w fun e w' => e = .returned (.bool true) ∧ Below w.heap.size w w' := by
  obtain ⟨Aqs, cqs, rfl, hlqs, hmqs⟩ := hvqs.form
  have HVqs := Lib.hid hvqs
  clear hvqs
  by_cases hbigqs : 1048576 < qs.length
  · skip
    go_enter Try.func8, Try.ntmps8
    go_wp2_with fail
    refine (szQuoteS_big w Aqs qs.length cqs hbigqs (by omega)).mono ?_
    rintro e w' ⟨rfl, rfl⟩
    go_wp2_with fail
    go_ret
    exact ⟨rfl, Below.refl _ _⟩
  have hnqs : qs.length ≤ 1048576 := by omega
  have hnqs' : (qs.length : Int) ≤ 1048576 := by omega
  obtain ⟨t, ht⟩ : ∃ t, countI n qs = t := ⟨_, rfl⟩
  go_enter Try.func8, Try.ntmps8
  go_wp2_with fail
  have B0 : Below w.heap.size w w := Below.refl _ _
  have z0 : w.heap.size ≤ w.heap.size := Nat.le_refl _
  go_wp2_with fail
  refine (szQuoteS_small w Aqs qs.length cqs hnqs).mono ?_
  rintro e w' ⟨rfl, rfl⟩
  go_wp2_with fail
  refine (toQuoteS_any w _ qs (HVqs.out.keep (SameAt.of_below B0)) hnqs).mono ?_
  rintro e w1 ⟨va, rfl, ova1, b1⟩
  have z1 := b1.size
  have hva : ∀ g, va.ownBlock = some g → g < w1.heap.size := fun g hg => (ova1.ge g hg).2
  have B1 := below_step B0 b1 (by omega)
  clear B0 b1
  go_wp2_with fail
  refine (specCountMeasures_any w1 n va qs (ova1.rd qC_len)).mono ?_
  rintro e w2 ⟨rfl, b2⟩
  rw [ht]
  have z2 := b2.size
  have B2 := below_step B1 b2 (by omega)
  have ova2 := ova1.keep (SameAt.of_below b2)
  clear B1 b2 ova1
  clear ova2 hva
  go_wp2_with fail
  refine (toQuoteS_any w2 _ qs (HVqs.out.keep (SameAt.of_below B2)) hnqs).mono ?_
  rintro e w3 ⟨vc, rfl, ovc3, b3⟩
  have z3 := b3.size
  have hvc : ∀ g, vc.ownBlock = some g → g < w3.heap.size := fun g hg => (ovc3.ge g hg).2
  have B3 := below_step B2 b3 (by omega)
  clear B2 b3
  go_wp2_with fail
  refine (implCountMeasures_any w3 n vc qs (ovc3.rd qC_len)).mono ?_
  rintro e w4 ⟨rfl, b4⟩
  rw [ht]
  have z4 := b4.size
  have B4 := below_step B3 b4 (by omega)
  have ovc4 := ovc3.keep (SameAt.of_below b4)
  clear B3 b4 ovc3
  go_wp2_with fail
  refine (toQuoteS_any w4 _ qs (HVqs.out.keep (SameAt.of_below B4)) hnqs).mono ?_
  rintro e w5 ⟨ve, rfl, ove5, b5⟩
  have z5 := b5.size
  have hve : ∀ g, ve.ownBlock = some g → g < w5.heap.size := fun g hg => (ove5.ge g hg).2
  have B5 := below_step B4 b5 (by omega)
  have ovc5 := ovc4.keep (SameAt.of_below b5)
  clear B4 b5 ovc4
  go_wp2_with fail
  refine (eqQuoteS_any w5 vc ve _ _ (ovc5.rd qC_len) (ove5.rd qC_len)).mono ?_
  rintro e w6 ⟨rfl, b6⟩
  rw [show ∀ x : List Qt, decide (x = x) = true from fun x => by simp]
  have z6 := b6.size
  have B6 := below_step B5 b6 (by omega)
  have ovc6 := ovc5.keep (SameAt.of_below b6)
  have ove6 := ove5.keep (SameAt.of_below b6)
  clear B5 b6 ovc5 ove5
  go_wp2_with fail
  go_ret
  exact ⟨rfl, B6⟩

theorem FnExactCountMeasures_walk (a0 : Int) (v1 : Value) (z1 : List Qt) (w : World) (w0 : (Lit.int .i64 a0).wf = true) (w1 : QRd w v1 z1) :
    Calls Try.prog 8 #[.int .i64 a0, v1] w fun e w' => e = .returned (.bool true) ∧ Below w.heap.size w w' := by
  exact exactCountMeasures_any w a0 v1 z1 w1

set_option maxHeartbeats 4000000 in
theorem exactFirstMeasure_any (w : World) (n : Int) (vqs : Value) (qs : List Qt) (hvqs : QRd w vqs qs) :
    Calls Try.prog 6 #[.int .i64 n, vqs] w fun e w' => e = .returned (.bool true) ∧ Below w.heap.size w w' := by
  obtain ⟨Aqs, cqs, rfl, hlqs, hmqs⟩ := hvqs.form
  have HVqs := Lib.hid hvqs
  clear hvqs
  by_cases hbigqs : 1048576 < qs.length
  · skip
    go_enter Try.func6, Try.ntmps6
    go_wp2_with fail
    refine (szQuoteS_big w Aqs qs.length cqs hbigqs (by omega)).mono ?_
    rintro e w' ⟨rfl, rfl⟩
    go_wp2_with fail
    go_ret
    exact ⟨rfl, Below.refl _ _⟩
  have hnqs : qs.length ≤ 1048576 := by omega
  have hnqs' : (qs.length : Int) ≤ 1048576 := by omega
  have hL := firstR_len n qs
  obtain ⟨t, ht⟩ : ∃ t, firstB n qs = t := ⟨_, rfl⟩
  go_enter Try.func6, Try.ntmps6
  go_wp2_with fail
  have B0 : Below w.heap.size w w := Below.refl _ _
  have z0 : w.heap.size ≤ w.heap.size := Nat.le_refl _
  go_wp2_with fail
  refine (szQuoteS_small w Aqs qs.length cqs hnqs).mono ?_
  rintro e w' ⟨rfl, rfl⟩
  go_wp2_with fail
  refine (toQuoteS_any w _ qs (HVqs.out.keep (SameAt.of_below B0)) hnqs).mono ?_
  rintro e w1 ⟨va, rfl, ova1, b1⟩
  have z1 := b1.size
  have hva : ∀ g, va.ownBlock = some g → g < w1.heap.size := fun g hg => (ova1.ge g hg).2
  have B1 := below_step B0 b1 (by omega)
  clear B0 b1
  go_wp2_with fail
  refine (specFirstMeasure_any w1 n va qs (ova1.rd qC_len)).mono ?_
  rintro e w2 ⟨vw, rfl, ovw2, b2⟩
  rw [ht]
  have z2 := b2.size
  have hvw : ∀ g, vw.ownBlock = some g → g < w2.heap.size := fun g hg => (ovw2.ge g hg).2
  have B2 := below_step B1 b2 (by omega)
  have ova2 := ova1.keep (SameAt.of_below b2)
  clear B1 b2 ova1
  clear ova2 hva
  go_wp2_with fail
  refine (toQuoteS_any w2 _ qs (HVqs.out.keep (SameAt.of_below B2)) hnqs).mono ?_
  rintro e w3 ⟨vc, rfl, ovc3, b3⟩
  have z3 := b3.size
  have hvc : ∀ g, vc.ownBlock = some g → g < w3.heap.size := fun g hg => (ovc3.ge g hg).2
  have B3 := below_step B2 b3 (by omega)
  have ovw3 := ovw2.keep (SameAt.of_below b3)
  clear B2 b3 ovw2
  go_wp2_with fail
  refine (implFirstMeasure_any w3 n vc qs (ovc3.rd qC_len)).mono ?_
  rintro e w4 ⟨vg, rfl, ovg4, b4⟩
  rw [ht]
  have z4 := b4.size
  have hvg : ∀ g, vg.ownBlock = some g → g < w4.heap.size := fun g hg => (ovg4.ge g hg).2
  have B4 := below_step B3 b4 (by omega)
  have ovw4 := ovw3.keep (SameAt.of_below b4)
  have ovc4 := ovc3.keep (SameAt.of_below b4)
  clear B3 b4 ovw3 ovc3
  cases t
  all_goals
    go_wp2_with fail
    refine (eqIntS_any w4 vg vw _ _ (ovg4.rd) (ovw4.rd)).mono ?_
    rintro e w' ⟨q5, rfl, rfl⟩
    rw [decide_self]
    have z5 : w4.heap.size ≤ (w4.drewN q5).heap.size := Nat.le_refl _
    have B5 : Below w.heap.size w (w4.drewN q5) := below_drewN B4 q5
    have ovw5 : IOwn (w4.drewN q5) _ vw _ := ovw4
    have ovc5 : QOwn (w4.drewN q5) _ vc _ := ovc4
    have ovg5 : IOwn (w4.drewN q5) _ vg _ := ovg4
    clear B4 ovw4 ovc4 ovg4
    generalize w4.drewN q5 = w5 at *
    go_wp2_with fail
    refine (toQuoteS_any w5 _ qs (HVqs.out.keep (SameAt.of_below B5)) hnqs).mono ?_
    rintro e w6 ⟨ve, rfl, ove6, b6⟩
    have z6 := b6.size
    have hve : ∀ g, ve.ownBlock = some g → g < w6.heap.size := fun g hg => (ove6.ge g hg).2
    have B6 := below_step B5 b6 (by omega)
    have ovw6 := ovw5.keep (SameAt.of_below b6)
    have ovc6 := ovc5.keep (SameAt.of_below b6)
    have ovg6 := ovg5.keep (SameAt.of_below b6)
    clear B5 b6 ovw5 ovc5 ovg5
    go_wp2_with fail
    refine (eqQuoteS_any w6 vc ve _ _ (ovc6.rd qC_len) (ove6.rd qC_len)).mono ?_
    rintro e w7 ⟨rfl, b7⟩
    rw [show ∀ x : List Qt, decide (x = x) = true from fun x => by simp]
    have z7 := b7.size
    have B7 := below_step B6 b7 (by omega)
    have ovw7 := ovw6.keep (SameAt.of_below b7)
    have ovc7 := ovc6.keep (SameAt.of_below b7)
    have ovg7 := ovg6.keep (SameAt.of_below b7)
    have ove7 := ove6.keep (SameAt.of_below b7)
    clear B6 b7 ovw6 ovc6 ovg6 ove6
    clear ove7 hve
    go_wp2_with fail
    refine (markQuoteS_any w7 _ (1) vc _ ovc7 hnqs (by omega) (by omega)).mono ?_
    rintro e w8 ⟨rfl, g8, y8⟩
    have z8 : w7.heap.size ≤ w8.heap.size := by omega
    have ovw8 := ovw7.keep (SameAt.of_grown g8 (GOwn.far ovc7 (fun g hg => by have := hvw g hg; omega)))
    have ovg8 := ovg7.keep (SameAt.of_grown g8 (own_far' ovg7 (fun g hg => by have := hvc g hg; omega)))
    have B8 := below_grownG B7 g8 ovc7 (by omega) (by omega)
    clear B7 ovc7 g8 ovw7 ovg7
    clear hvc
    go_wp2_with fail
    refine (eqIntS_any w8 vg vw _ _ (ovg8.rd) (ovw8.rd)).mono ?_
    rintro e w' ⟨q9, rfl, rfl⟩
    rw [decide_self]
    have z9 : w8.heap.size ≤ (w8.drewN q9).heap.size := Nat.le_refl _
    have B9 : Below w.heap.size w (w8.drewN q9) := below_drewN B8 q9
    have ovw9 : IOwn (w8.drewN q9) _ vw _ := ovw8
    have ovg9 : IOwn (w8.drewN q9) _ vg _ := ovg8
    clear B8 ovw8 ovg8
    generalize w8.drewN q9 = w9 at *
    go_wp2_with fail
    refine (markIntS_any w9 _ (1) vg _ ovg9 (by omega) (by omega) (by omega)).mono ?_
    rintro e w10 ⟨rfl, ovg10, g10, y10⟩
    have z10 : w9.heap.size ≤ w10.heap.size := by omega
    have ovw10 := ovw9.keep (SameAt.of_grown g10 (own_far ovg9 (fun g hg => by have := hvw g hg; omega)))
    have B10 := below_grown B9 g10 ovg9 (by omega) (by omega)
    clear B9 ovg9 g10 ovw9
    go_wp2_with fail
    refine (heldIntS_any w10 (1) vg _ (ovg10.rd) (by omega) (by omega) (by omega)).mono ?_
    rintro e w' ⟨rfl, rfl⟩
    go_wp2_with fail
    refine (toQuoteS_any w10 _ qs (HVqs.out.keep (SameAt.of_below B10)) hnqs).mono ?_
    rintro e w11 ⟨vh, rfl, ovh11, b11⟩
    have z11 := b11.size
    have hvh : ∀ g, vh.ownBlock = some g → g < w11.heap.size := fun g hg => (ovh11.ge g hg).2
    have B11 := below_step B10 b11 (by omega)
    have ovw11 := ovw10.keep (SameAt.of_below b11)
    have ovg11 := ovg10.keep (SameAt.of_below b11)
    clear B10 b11 ovw10 ovg10
    go_wp2_with fail
    refine (implFirstMeasure_any w11 n vh qs (ovh11.rd qC_len)).mono ?_
    rintro e w12 ⟨vj, rfl, ovj12, b12⟩
    rw [ht]
    have z12 := b12.size
    have hvj : ∀ g, vj.ownBlock = some g → g < w12.heap.size := fun g hg => (ovj12.ge g hg).2
    have B12 := below_step B11 b12 (by omega)
    have ovw12 := ovw11.keep (SameAt.of_below b12)
    have ovg12 := ovg11.keep (SameAt.of_below b12)
    have ovh12 := ovh11.keep (SameAt.of_below b12)
    clear B11 b12 ovw11 ovg11 ovh11
    clear ovh12 hvh
    go_wp2_with fail
    refine (eqIntS_any w12 vj vw _ _ (ovj12.rd) (ovw12.rd)).mono ?_
    rintro e w' ⟨q13, rfl, rfl⟩
    rw [decide_self]
    have z13 : w12.heap.size ≤ (w12.drewN q13).heap.size := Nat.le_refl _
    have B13 : Below w.heap.size w (w12.drewN q13) := below_drewN B12 q13
    have ovw13 : IOwn (w12.drewN q13) _ vw _ := ovw12
    have ovg13 : IOwn (w12.drewN q13) _ vg _ := ovg12
    have ovj13 : IOwn (w12.drewN q13) _ vj _ := ovj12
    clear B12 ovw12 ovg12 ovj12
    generalize w12.drewN q13 = w13 at *
    go_wp2_with fail
    refine (heldIntS_any w13 (1) vg _ (ovg13.rd) (by omega) (by omega) (by omega)).mono ?_
    rintro e w' ⟨rfl, rfl⟩
    go_wp2_with fail
    go_ret
    exact ⟨rfl, B13⟩

theorem FnExactFirstMeasure_walk (a0 : Int) (v1 : Value) (z1 : List Qt) (w : World) (w0 : (Lit.int .i64 a0).wf = true) (w1 : QRd w v1 z1) :
    Calls Try.prog 6 #[.int .i64 a0, v1] w fun e w' => e = .returned (.bool true) ∧ Below w.heap.size w w' := by
  exact exactFirstMeasure_any w a0 v1 z1 w1

end Go.Proofs.Ytfjmlbcmidichaa
