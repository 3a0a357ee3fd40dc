/- The walks of the exact laws of chapter 4. Conditions: stated at each. -/
import Derived.Test.YtnkgnhnggjoglaaNj
import Derived.Test.YtnkgnhnggjoglaaMi
import Derived.Test.YtnkgnhnggjoglaaQf
namespace Go.Proofs.Ytnkgnhnggjoglaa
open Go.RowKit
set_option linter.unusedVariables false

theorem firstR_len (n : Int) (qs : List Qt) : (firstR n qs).length ≤ 4 := by
  unfold firstR
  split
  · next h =>
    obtain ⟨h1, h2⟩ := ((bokB_iff _ _).1 h).1
    cases hf : firstFit n.toNat qs with
    | none => simp
    | some l =>
      have hm := List.mem_of_find?_eq_some hf
      obtain ⟨k, hk⟩ : ∃ k, n.toNat = k + 1 := ⟨n.toNat - 1, by omega⟩
      rw [hk] at hm
      have := ((mem_lay k 36 l).1 hm).1
      simp only [Option.map_some, Option.getD_some, natL_len]
      omega
  · simp

theorem mixR_len (a b : List Int) : (mixR a b).length ≤ 4 := by
  unfold mixR
  split
  · next h =>
    have h1 := mix_mea h
    have := (grs_of h1.1).2
    exact this
  · simp

set_option maxHeartbeats 4000000 in
theorem exactMixedMeasure_any (w : World) (va : Value) (a : List Int) (vb : Value) (b : List Int) (hva : IRd w va a) (hvb : IRd w vb b) :
    Calls Try.prog 17 #[va, vb] w fun e w' => e = .returned (.bool true) ∧ Below w.heap.size w w' := by
  obtain ⟨Aa, ca, rfl, hla, hma, -⟩ := id hva
  have HVa := Lib.hid hva
  clear hva
  obtain ⟨Ab, cb, rfl, hlb, hmb, -⟩ := id hvb
  have HVb := Lib.hid hvb
  clear hvb
  by_cases hbiga : 1048576 < a.length
  · have hbiga' : (1048576 : Int) < (a.length : Int) := by omega
    go_enter Try.func17, Try.ntmps17
    go_wp2_with fail
    go_ret
    exact ⟨rfl, Below.refl _ _⟩
  by_cases hbigb : 1048576 < b.length
  · have hbigb' : (1048576 : Int) < (b.length : Int) := by omega
    have hsa' : (a.length : Int) ≤ 1048576 := by omega
    go_enter Try.func17, Try.ntmps17
    go_wp2_with fail
    go_ret
    exact ⟨rfl, Below.refl _ _⟩
  have hna : a.length ≤ 1048576 := by omega
  have hna' : (a.length : Int) ≤ 1048576 := by omega
  have hnb : b.length ≤ 1048576 := by omega
  have hnb' : (b.length : Int) ≤ 1048576 := by omega
  have hL := mixR_len a b
  obtain ⟨t, ht⟩ : ∃ t, mixB a b = t := ⟨_, rfl⟩
  go_enter Try.func17, Try.ntmps17
  go_wp2_with fail
  have B0 : Below w.heap.size w w := Below.refl _ _
  have z0 : w.heap.size ≤ w.heap.size := Nat.le_refl _
  go_wp2_with fail
  refine (toIntS_any w _ a (HVa.out.keep (SameAt.of_below B0)) hna).mono ?_
  rintro e w1 ⟨va, rfl, ova1, b1⟩
  have z1 := b1.size
  have hva : ∀ g, va.ownBlock = some g → g < w1.heap.size := fun g hg => (ova1.ge g hg).2
  have B1 := below_step B0 b1 (by omega)
  clear B0 b1
  go_wp2_with fail
  refine (toIntS_any w1 _ b (HVb.out.keep (SameAt.of_below B1)) hnb).mono ?_
  rintro e w2 ⟨vb, rfl, ovb2, b2⟩
  have z2 := b2.size
  have hvb : ∀ g, vb.ownBlock = some g → g < w2.heap.size := fun g hg => (ovb2.ge g hg).2
  have B2 := below_step B1 b2 (by omega)
  have ova2 := ova1.keep (SameAt.of_below b2)
  clear B1 b2 ova1
  go_wp2_with fail
  refine (specMixedMeasure_any w2 va vb a b (ova2.rd) (ovb2.rd)).mono ?_
  rintro e w3 ⟨vw, rfl, ovw3, b3⟩
  rw [ht]
  have z3 := b3.size
  have hvw : ∀ g, vw.ownBlock = some g → g < w3.heap.size := fun g hg => (ovw3.ge g hg).2
  have B3 := below_step B2 b3 (by omega)
  have ova3 := ova2.keep (SameAt.of_below b3)
  have ovb3 := ovb2.keep (SameAt.of_below b3)
  clear B2 b3 ova2 ovb2
  clear ova3 hva
  clear ovb3 hvb
  go_wp2_with fail
  refine (toIntS_any w3 _ a (HVa.out.keep (SameAt.of_below B3)) hna).mono ?_
  rintro e w4 ⟨vc, rfl, ovc4, b4⟩
  have z4 := b4.size
  have hvc : ∀ g, vc.ownBlock = some g → g < w4.heap.size := fun g hg => (ovc4.ge g hg).2
  have B4 := below_step B3 b4 (by omega)
  have ovw4 := ovw3.keep (SameAt.of_below b4)
  clear B3 b4 ovw3
  go_wp2_with fail
  refine (toIntS_any w4 _ b (HVb.out.keep (SameAt.of_below B4)) hnb).mono ?_
  rintro e w5 ⟨vd, rfl, ovd5, b5⟩
  have z5 := b5.size
  have hvd : ∀ g, vd.ownBlock = some g → g < w5.heap.size := fun g hg => (ovd5.ge g hg).2
  have B5 := below_step B4 b5 (by omega)
  have ovw5 := ovw4.keep (SameAt.of_below b5)
  have ovc5 := ovc4.keep (SameAt.of_below b5)
  clear B4 b5 ovw4 ovc4
  go_wp2_with fail
  refine (implMixedMeasure_any w5 vc vd a b (ovc5.rd) (ovd5.rd)).mono ?_
  rintro e w6 ⟨vg, rfl, ovg6, b6⟩
  rw [ht]
  have z6 := b6.size
  have hvg : ∀ g, vg.ownBlock = some g → g < w6.heap.size := fun g hg => (ovg6.ge g hg).2
  have B6 := below_step B5 b6 (by omega)
  have ovw6 := ovw5.keep (SameAt.of_below b6)
  have ovc6 := ovc5.keep (SameAt.of_below b6)
  have ovd6 := ovd5.keep (SameAt.of_below b6)
  clear B5 b6 ovw5 ovc5 ovd5
  cases t
  all_goals
    go_wp2_with fail
    refine (eqIntS_any w6 vg vw _ _ (ovg6.rd) (ovw6.rd)).mono ?_
    rintro e w' ⟨q7, rfl, rfl⟩
    rw [decide_self]
    have z7 : w6.heap.size ≤ (w6.drewN q7).heap.size := Nat.le_refl _
    have B7 : Below w.heap.size w (w6.drewN q7) := below_drewN B6 q7
    have ovw7 : IOwn (w6.drewN q7) _ vw _ := ovw6
    have ovc7 : IOwn (w6.drewN q7) _ vc _ := ovc6
    have ovd7 : IOwn (w6.drewN q7) _ vd _ := ovd6
    have ovg7 : IOwn (w6.drewN q7) _ vg _ := ovg6
    clear B6 ovw6 ovc6 ovd6 ovg6
    generalize w6.drewN q7 = w7 at *
    go_wp2_with fail
    refine (toIntS_any w7 _ a (HVa.out.keep (SameAt.of_below B7)) hna).mono ?_
    rintro e w8 ⟨ve, rfl, ove8, b8⟩
    have z8 := b8.size
    have hve : ∀ g, ve.ownBlock = some g → g < w8.heap.size := fun g hg => (ove8.ge g hg).2
    have B8 := below_step B7 b8 (by omega)
    have ovw8 := ovw7.keep (SameAt.of_below b8)
    have ovc8 := ovc7.keep (SameAt.of_below b8)
    have ovd8 := ovd7.keep (SameAt.of_below b8)
    have ovg8 := ovg7.keep (SameAt.of_below b8)
    clear B7 b8 ovw7 ovc7 ovd7 ovg7
    go_wp2_with fail
    refine (eqIntS_any w8 vc ve _ _ (ovc8.rd) (ove8.rd)).mono ?_
    rintro e w' ⟨q9, rfl, rfl⟩
    rw [decide_self]
    have z9 : w8.heap.size ≤ (w8.drewN q9).heap.size := Nat.le_refl _
    have B9 : Below w.heap.size w (w8.drewN q9) := below_drewN B8 q9
    have ovw9 : IOwn (w8.drewN q9) _ vw _ := ovw8
    have ovc9 : IOwn (w8.drewN q9) _ vc _ := ovc8
    have ovd9 : IOwn (w8.drewN q9) _ vd _ := ovd8
    have ovg9 : IOwn (w8.drewN q9) _ vg _ := ovg8
    have ove9 : IOwn (w8.drewN q9) _ ve _ := ove8
    clear B8 ovw8 ovc8 ovd8 ovg8 ove8
    generalize w8.drewN q9 = w9 at *
    clear ove9 hve
    go_wp2_with fail
    refine (toIntS_any w9 _ b (HVb.out.keep (SameAt.of_below B9)) hnb).mono ?_
    rintro e w10 ⟨vf, rfl, ovf10, b10⟩
    have z10 := b10.size
    have hvf : ∀ g, vf.ownBlock = some g → g < w10.heap.size := fun g hg => (ovf10.ge g hg).2
    have B10 := below_step B9 b10 (by omega)
    have ovw10 := ovw9.keep (SameAt.of_below b10)
    have ovc10 := ovc9.keep (SameAt.of_below b10)
    have ovd10 := ovd9.keep (SameAt.of_below b10)
    have ovg10 := ovg9.keep (SameAt.of_below b10)
    clear B9 b10 ovw9 ovc9 ovd9 ovg9
    go_wp2_with fail
    refine (eqIntS_any w10 vd vf _ _ (ovd10.rd) (ovf10.rd)).mono ?_
    rintro e w' ⟨q11, rfl, rfl⟩
    rw [decide_self]
    have z11 : w10.heap.size ≤ (w10.drewN q11).heap.size := Nat.le_refl _
    have B11 : Below w.heap.size w (w10.drewN q11) := below_drewN B10 q11
    have ovw11 : IOwn (w10.drewN q11) _ vw _ := ovw10
    have ovc11 : IOwn (w10.drewN q11) _ vc _ := ovc10
    have ovd11 : IOwn (w10.drewN q11) _ vd _ := ovd10
    have ovg11 : IOwn (w10.drewN q11) _ vg _ := ovg10
    have ovf11 : IOwn (w10.drewN q11) _ vf _ := ovf10
    clear B10 ovw10 ovc10 ovd10 ovg10 ovf10
    generalize w10.drewN q11 = w11 at *
    clear ovf11 hvf
    go_wp2_with fail
    refine (markIntS_any w11 _ (1) vc _ ovc11 hna (by omega) (by omega)).mono ?_
    rintro e w12 ⟨rfl, ovc12, g12, y12⟩
    have z12 : w11.heap.size ≤ w12.heap.size := by omega
    have ovw12 := ovw11.keep (SameAt.of_grown g12 (own_far ovc11 (fun g hg => by have := hvw g hg; omega)))
    have ovd12 := ovd11.keep (SameAt.of_grown g12 (own_far' ovd11 (fun g hg => by have := hvc g hg; omega)))
    have ovg12 := ovg11.keep (SameAt.of_grown g12 (own_far' ovg11 (fun g hg => by have := hvc g hg; omega)))
    have B12 := below_grown B11 g12 ovc11 (by omega) (by omega)
    clear B11 ovc11 g12 ovw11 ovd11 ovg11
    go_wp2_with fail
    refine (markIntS_any w12 _ (1 + (a.length : Int)) vd _ ovd12 hnb (by omega) (by omega)).mono ?_
    rintro e w13 ⟨rfl, ovd13, g13, y13⟩
    have z13 : w12.heap.size ≤ w13.heap.size := by omega
    have ovw13 := ovw12.keep (SameAt.of_grown g13 (own_far ovd12 (fun g hg => by have := hvw g hg; omega)))
    have ovc13 := ovc12.keep (SameAt.of_grown g13 (own_far ovd12 (fun g hg => by have := hvc g hg; omega)))
    have ovg13 := ovg12.keep (SameAt.of_grown g13 (own_far' ovg12 (fun g hg => by have := hvd g hg; omega)))
    have B13 := below_grown B12 g13 ovd12 (by omega) (by omega)
    clear B12 ovd12 g13 ovw12 ovc12 ovg12
    clear ovc13 hvc
    clear ovd13 hvd
    go_wp2_with fail
    refine (eqIntS_any w13 vg vw _ _ (ovg13.rd) (ovw13.rd)).mono ?_
    rintro e w' ⟨q14, rfl, rfl⟩
    rw [decide_self]
    have z14 : w13.heap.size ≤ (w13.drewN q14).heap.size := Nat.le_refl _
    have B14 : Below w.heap.size w (w13.drewN q14) := below_drewN B13 q14
    have ovw14 : IOwn (w13.drewN q14) _ vw _ := ovw13
    have ovg14 : IOwn (w13.drewN q14) _ vg _ := ovg13
    clear B13 ovw13 ovg13
    generalize w13.drewN q14 = w14 at *
    go_wp2_with fail
    refine (markIntS_any w14 _ (1) vg _ ovg14 (by omega) (by omega) (by omega)).mono ?_
    rintro e w15 ⟨rfl, ovg15, g15, y15⟩
    have z15 : w14.heap.size ≤ w15.heap.size := by omega
    have ovw15 := ovw14.keep (SameAt.of_grown g15 (own_far ovg14 (fun g hg => by have := hvw g hg; omega)))
    have B15 := below_grown B14 g15 ovg14 (by omega) (by omega)
    clear B14 ovg14 g15 ovw14
    go_wp2_with fail
    refine (heldIntS_any w15 (1) vg _ (ovg15.rd) (by omega) (by omega) (by omega)).mono ?_
    rintro e w' ⟨rfl, rfl⟩
    go_wp2_with fail
    refine (toIntS_any w15 _ a (HVa.out.keep (SameAt.of_below B15)) hna).mono ?_
    rintro e w16 ⟨vh, rfl, ovh16, b16⟩
    have z16 := b16.size
    have hvh : ∀ g, vh.ownBlock = some g → g < w16.heap.size := fun g hg => (ovh16.ge g hg).2
    have B16 := below_step B15 b16 (by omega)
    have ovw16 := ovw15.keep (SameAt.of_below b16)
    have ovg16 := ovg15.keep (SameAt.of_below b16)
    clear B15 b16 ovw15 ovg15
    go_wp2_with fail
    refine (toIntS_any w16 _ b (HVb.out.keep (SameAt.of_below B16)) hnb).mono ?_
    rintro e w17 ⟨vi, rfl, ovi17, b17⟩
    have z17 := b17.size
    have hvi : ∀ g, vi.ownBlock = some g → g < w17.heap.size := fun g hg => (ovi17.ge g hg).2
    have B17 := below_step B16 b17 (by omega)
    have ovw17 := ovw16.keep (SameAt.of_below b17)
    have ovg17 := ovg16.keep (SameAt.of_below b17)
    have ovh17 := ovh16.keep (SameAt.of_below b17)
    clear B16 b17 ovw16 ovg16 ovh16
    go_wp2_with fail
    refine (implMixedMeasure_any w17 vh vi a b (ovh17.rd) (ovi17.rd)).mono ?_
    rintro e w18 ⟨vj, rfl, ovj18, b18⟩
    rw [ht]
    have z18 := b18.size
    have hvj : ∀ g, vj.ownBlock = some g → g < w18.heap.size := fun g hg => (ovj18.ge g hg).2
    have B18 := below_step B17 b18 (by omega)
    have ovw18 := ovw17.keep (SameAt.of_below b18)
    have ovg18 := ovg17.keep (SameAt.of_below b18)
    have ovh18 := ovh17.keep (SameAt.of_below b18)
    have ovi18 := ovi17.keep (SameAt.of_below b18)
    clear B17 b18 ovw17 ovg17 ovh17 ovi17
    clear ovh18 hvh
    clear ovi18 hvi
    go_wp2_with fail
    refine (eqIntS_any w18 vj vw _ _ (ovj18.rd) (ovw18.rd)).mono ?_
    rintro e w' ⟨q19, rfl, rfl⟩
    rw [decide_self]
    have z19 : w18.heap.size ≤ (w18.drewN q19).heap.size := Nat.le_refl _
    have B19 : Below w.heap.size w (w18.drewN q19) := below_drewN B18 q19
    have ovw19 : IOwn (w18.drewN q19) _ vw _ := ovw18
    have ovg19 : IOwn (w18.drewN q19) _ vg _ := ovg18
    have ovj19 : IOwn (w18.drewN q19) _ vj _ := ovj18
    clear B18 ovw18 ovg18 ovj18
    generalize w18.drewN q19 = w19 at *
    go_wp2_with fail
    refine (heldIntS_any w19 (1) vg _ (ovg19.rd) (by omega) (by omega) (by omega)).mono ?_
    rintro e w' ⟨rfl, rfl⟩
    go_wp2_with fail
    go_ret
    exact ⟨rfl, B19⟩

theorem FnExactMixedMeasure_walk (a0 : Option Addr) (len0 cap0 : Nat) (z0 : List Int) (a1 : Option Addr) (len1 cap1 : Nat) (z1 : List Int) (w : World) (w0 : IsRowC .i64 w a0 len0 cap0 z0) (w1 : IsRowC .i64 w a1 len1 cap1 z1) :
    Calls Try.prog 17 #[.slice a0 len0 cap0, .slice a1 len1 cap1] w fun e w' => e = .returned (.bool true) ∧ Below w.heap.size w w' := by
  obtain ⟨xs0, h0⟩ := ird_of_row w0
  obtain ⟨xs1, h1⟩ := ird_of_row w1
  exact exactMixedMeasure_any w _ xs0 _ xs1 h0 h1

end Go.Proofs.Ytnkgnhnggjoglaa
