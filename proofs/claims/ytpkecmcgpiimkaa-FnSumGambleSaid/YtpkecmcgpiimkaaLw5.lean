/- The walk of the law of TimesGamble. Conditions: a row of bytes that came in. -/
import Derived.Test.YtpkecmcgpiimkaaLw4
namespace Go.Proofs.Ytpkecmcgpiimkaa
open Go.RowKit
set_option linter.unusedVariables false

theorem timesR_yes {g : List Int} {t : Int} (h : timesB g t = true) : timesR g t = mulL g t := by rw [timesR, h]; rfl

theorem timesR_no {g : List Int} {t : Int} (h : timesB g t = false) : timesR g t = [] := by rw [timesR, h]; rfl

set_option maxHeartbeats 8000000 in
theorem FnTimesGamble_walk (a0 : Option Addr) (len0 cap0 : Nat) (z0 : List Int) (w : World) (w0 : IsRowC .u8 w a0 len0 cap0 z0) :
    Calls Try.prog 5 #[.slice a0 len0 cap0] w fun e w' => e = .returned (.bool true) ∧ Below w.heap.size w w' := by
  by_cases hlen : 1048576 < len0
  · clear w0
    go_enter Try.func5, Try.ntmps5
    go_wp2
    go_ret
    exact ⟨rfl, Below.refl _ _⟩
  · have hlen' : decide (1048576 < len0) = false := by simpa using hlen
    go_enter Try.func5, Try.ntmps5
    go_wp2_with fail
    refine (drawTimesGamble_any _ _ _ _ _ w0).mono ?_
    rintro e w1 ⟨vg, xs, t, rfl, ovg1, hx8, -, -, -, B1⟩
    clear hlen hlen' w0
    have z1 := B1.size
    rcases Bool.eq_false_or_eq_true (timesB xs t) with hs | hs
    · have HS := Lib.hid hs
      have HR := Lib.hid (timesR_yes hs)
      have hg := (timesB_parts hs).1
      have HG := Lib.hid hg
      obtain ⟨m, hm⟩ : ∃ m, bestI xs = m := ⟨_, rfl⟩
      obtain ⟨mb1, mb2⟩ : -1000 ≤ m ∧ m ≤ 1000 := by rw [← hm]; exact best_bounds hg
      have HM := Lib.hid hm
      have t1 := times_gok hg (t := 1) (.inl rfl)
      have t2 := times_gok hg (t := -1) (.inr (.inl rfl))
      have t3 := times_gok hg (t := 0) (.inr (.inr rfl))
      have T1 := Lib.hid t1
      have T2 := Lib.hid t2
      have T3 := Lib.hid t3
      have R1 : Hid (timesR xs 1 = xs) := Lib.hid ((timesR_yes t1).trans (mulL_one xs))
      have R2 := Lib.hid (timesR_yes t2)
      have R3 := Lib.hid (timesR_yes t3)
      have G2 := Lib.hid (timesB_parts t2).2
      have G3 := Lib.hid (timesB_parts t3).2
      have W2 := Lib.hid ((other_worst hg).trans (congrArg (fun z => -z) hm))
      have W3 := Lib.hid (none_best hg)
      clear hs hg hm t1 t2 t3
      go_wp2_with fail
      refine (implTimesGamble_any w1 vg _ t ovg1.rd).mono ?_
      rintro e w2 ⟨vx, rfl, ovx2, b2⟩
      rw [HS.out]
      rw [HR.out] at ovx2
      have z2 := b2.size
      have hvx : ∀ g, vx.ownBlock = some g → g < w2.heap.size := fun g hg => (ovx2.ge g hg).2
      have B2 := below_step B1 b2 (by omega)
      have ovg2 := ovg1.keep (SameAt.of_below b2)
      clear B1 b2 ovg1
      go_wp2_with fail
      refine (specTimesGamble_any w2 vg _ t ovg2.rd).mono ?_
      rintro e w3 ⟨vy, rfl, ovy3, b3⟩
      rw [HS.out]
      rw [HR.out] at ovy3
      have z3 := b3.size
      have hvy : ∀ g, vy.ownBlock = some g → g < w3.heap.size := fun g hg => (ovy3.ge g hg).2
      have B3 := below_step B2 b3 (by omega)
      have ovg3 := ovg2.keep (SameAt.of_below b3)
      have ovx3 := ovx2.keep (SameAt.of_below b3)
      clear B2 b3 ovg2 ovx2
      go_wp2_with fail
      refine (sameInts_any w3 vx vy _ _ ovx3.rd ovy3.rd).mono ?_
      rintro e w' ⟨q4, rfl, rfl⟩
      rw [decide_self]
      have z4 : w3.heap.size ≤ (w3.drewN q4).heap.size := Nat.le_refl _
      have B4 : Below w.heap.size w (w3.drewN q4) := below_drewN B3 q4
      have ovg4 : IOwn (w3.drewN q4) _ vg _ := ovg3
      have ovx4 : IOwn (w3.drewN q4) _ vx _ := ovx3
      have ovy4 : IOwn (w3.drewN q4) _ vy _ := ovy3
      clear B3 ovg3 ovx3 ovy3
      generalize w3.drewN q4 = w4 at *
      clear ovy4 hvy
      clear ovx4 hvx
      go_wp2_with fail
      refine (implTimesGamble_any w4 vg _ 1 ovg4.rd).mono ?_
      rintro e w5 ⟨va, rfl, ova5, b5⟩
      rw [T1.out]
      rw [R1.out] at ova5
      have z5 := b5.size
      have hva : ∀ g, va.ownBlock = some g → g < w5.heap.size := fun g hg => (ova5.ge g hg).2
      have B5 := below_step B4 b5 (by omega)
      have ovg5 := ovg4.keep (SameAt.of_below b5)
      clear B4 b5 ovg4
      go_wp2_with fail
      refine (implTimesGamble_any w5 vg _ (-1) ovg5.rd).mono ?_
      rintro e w6 ⟨vb, rfl, ovb6, b6⟩
      rw [T2.out]
      rw [R2.out] at ovb6
      have z6 := b6.size
      have hvb : ∀ g, vb.ownBlock = some g → g < w6.heap.size := fun g hg => (ovb6.ge g hg).2
      have B6 := below_step B5 b6 (by omega)
      have ovg6 := ovg5.keep (SameAt.of_below b6)
      have ova6 := ova5.keep (SameAt.of_below b6)
      clear B5 b6 ovg5 ova5
      go_wp2_with fail
      refine (implTimesGamble_any w6 vg _ 0 ovg6.rd).mono ?_
      rintro e w7 ⟨vc, rfl, ovc7, b7⟩
      rw [T3.out]
      rw [R3.out] at ovc7
      have z7 := b7.size
      have hvc : ∀ g, vc.ownBlock = some g → g < w7.heap.size := fun g hg => (ovc7.ge g hg).2
      have B7 := below_step B6 b7 (by omega)
      have ovg7 := ovg6.keep (SameAt.of_below b7)
      have ova7 := ova6.keep (SameAt.of_below b7)
      have ovb7 := ovb6.keep (SameAt.of_below b7)
      clear B6 b7 ovg6 ova6 ovb6
      go_wp2_with fail
      refine (implWorstOf_any _ _ _ ovb7.rd).mono ?_
      rintro e w' ⟨rfl, rfl⟩
      rw [G2.out, W2.out]
      go_wp2_with fail
      refine (implBestOf_any _ _ _ ovg7.rd).mono ?_
      rintro e w' ⟨rfl, rfl⟩
      rw [HG.out, HM.out]
      go_wp2_with fail
      refine (implBestOf_any _ _ _ ovc7.rd).mono ?_
      rintro e w' ⟨rfl, rfl⟩
      rw [G3.out, W3.out]
      go_wp2_with fail
      refine (sameInts_any w7 va vg _ _ ova7.rd ovg7.rd).mono ?_
      rintro e w' ⟨q8, rfl, rfl⟩
      rw [decide_self]
      have z8 : w7.heap.size ≤ (w7.drewN q8).heap.size := Nat.le_refl _
      have B8 : Below w.heap.size w (w7.drewN q8) := below_drewN B7 q8
      have ovg8 : IOwn (w7.drewN q8) _ vg _ := ovg7
      have ova8 : IOwn (w7.drewN q8) _ va _ := ova7
      have ovb8 : IOwn (w7.drewN q8) _ vb _ := ovb7
      have ovc8 : IOwn (w7.drewN q8) _ vc _ := ovc7
      clear B7 ovg7 ova7 ovb7 ovc7
      generalize w7.drewN q8 = w8 at *
      go_wp2_with fail
      go_ret
      exact ⟨ret_bool (by simp), B8⟩
    · have HS := Lib.hid hs
      have HR := Lib.hid (timesR_no hs)
      clear hs
      go_wp2_with fail
      refine (implTimesGamble_any w1 vg _ t ovg1.rd).mono ?_
      rintro e w2 ⟨vx, rfl, ovx2, b2⟩
      rw [HS.out]
      rw [HR.out] at ovx2
      have z2 := b2.size
      have hvx : ∀ g, vx.ownBlock = some g → g < w2.heap.size := fun g hg => (ovx2.ge g hg).2
      have B2 := below_step B1 b2 (by omega)
      have ovg2 := ovg1.keep (SameAt.of_below b2)
      clear B1 b2 ovg1
      go_wp2_with fail
      refine (specTimesGamble_any w2 vg _ t ovg2.rd).mono ?_
      rintro e w3 ⟨vy, rfl, ovy3, b3⟩
      rw [HS.out]
      rw [HR.out] at ovy3
      have z3 := b3.size
      have hvy : ∀ g, vy.ownBlock = some g → g < w3.heap.size := fun g hg => (ovy3.ge g hg).2
      have B3 := below_step B2 b3 (by omega)
      have ovg3 := ovg2.keep (SameAt.of_below b3)
      have ovx3 := ovx2.keep (SameAt.of_below b3)
      clear B2 b3 ovg2 ovx2
      obtain ⟨Ax, cx, rfl, hlcx, hmx, -⟩ := id ovx3.rd
      go_wp2_with fail
      refine (sameInts_any w3 _ vy _ _ ovx3.rd ovy3.rd).mono ?_
      rintro e w' ⟨q4, rfl, rfl⟩
      rw [decide_self]
      have z4 : w3.heap.size ≤ (w3.drewN q4).heap.size := Nat.le_refl _
      have B4 : Below w.heap.size w (w3.drewN q4) := below_drewN B3 q4
      have ovg4 : IOwn (w3.drewN q4) _ vg _ := ovg3
      have ovx4 : IOwn (w3.drewN q4) _ _ _ := ovx3
      have ovy4 : IOwn (w3.drewN q4) _ vy _ := ovy3
      clear B3 ovg3 ovx3 ovy3
      generalize w3.drewN q4 = w4 at *
      go_wp2_with fail
      refine (alive_any _).mono ?_
      rintro e w' ⟨rfl, rfl⟩
      go_wp2_with fail
      go_ret
      exact ⟨ret_bool (by simp), B4⟩

end Go.Proofs.Ytpkecmcgpiimkaa
