/- The walk of the law of TableOf. Conditions: a row of bytes that came in. -/
import Derived.Test.YtempdaodmjiloaaVb
import Derived.Test.YtempdaodmjiloaaUi
namespace Go.Proofs.Ytempdaodmjiloaa
open Go.RowKit
set_option linter.unusedVariables false

set_option maxRecDepth 100000 in
set_option maxHeartbeats 8000000 in
theorem FnTableOf_walk (a0 : Option Addr) (len0 cap0 : Nat) (z0 : List Int) (w : World) (w0 : IsRowC .u8 w a0 len0 cap0 z0) :
    Calls Try.prog 4 #[.slice a0 len0 cap0] w fun e w' => e = .returned (.bool true) ∧ Below w.heap.size w w' := by
  by_cases hlen : 1048576 < len0
  · clear w0
    go_enter Try.func4, Try.ntmps4
    go_wp2
    go_ret
    exact ⟨rfl, Below.refl _ _⟩
  · have hlen' : decide (1048576 < len0) = false := by simpa using hlen
    go_enter Try.func4, Try.ntmps4
    go_wp2_with fail
    refine (drawTableOf_any _ _ _ _ _ w0).mono ?_
    rintro e w1 ⟨vg, m, rfl, ovg1, hm4, -, B1⟩
    clear hlen hlen' w0
    have z1 := B1.size
    rcases Bool.eq_false_or_eq_true (meaB m) with h | h
    · have HM := Lib.hid h
      obtain ⟨t, ht⟩ : ∃ t, tabL m = t := ⟨_, rfl⟩
      have HR : Hid (tabR m = t) := Lib.hid ((tabR_yes h).trans ht)
      have HA : Hid (addB (m.length : Int) t = true) := Lib.hid (ht ▸ mea_tab h)
      have HMM : Hid (measR (m.length : Int) t = m) := Lib.hid (ht ▸ ((measR_yes (mea_tab h)).trans (meas_tab h)))
      obtain ⟨-, -, -, -, -, -, hN⟩ := tok_len ((addB_iff _ _).1 HA.out).1
      have hN' : (2 : Int) ≤ (t.length : Int) := by omega
      clear h ht hN
      go_wp2_with fail
      refine (implTableOf_any w1 vg _ (ovg1.rd)).mono ?_
      rintro e w2 ⟨vt, rfl, ovt2, b2⟩
      rw [HR.out] at ovt2
      have z2 := b2.size
      have hvt : ∀ g, vt.ownBlock = some g → g < w2.heap.size := fun g hg => (ovt2.ge g hg).2
      have B2 := below_step B1 b2 (by omega)
      have ovg2 := ovg1.keep (SameAt.of_below b2)
      clear B1 b2 ovg1
      go_wp2_with fail
      refine (specTableOf_any w2 vg _ (ovg2.rd)).mono ?_
      rintro e w3 ⟨vs, rfl, ovs3, b3⟩
      rw [HR.out] at ovs3
      have z3 := b3.size
      have hvs : ∀ g, vs.ownBlock = some g → g < w3.heap.size := fun g hg => (ovs3.ge g hg).2
      have B3 := below_step B2 b3 (by omega)
      have ovg3 := ovg2.keep (SameAt.of_below b3)
      have ovt3 := ovt2.keep (SameAt.of_below b3)
      clear B2 b3 ovg2 ovt2
      go_wp2_with fail
      refine (sameInts_any w3 vt vs _ _ (ovt3.rd) (ovs3.rd)).mono ?_
      rintro e w' ⟨q4, rfl, rfl⟩
      rw [decide_self]
      have z4 : w3.heap.size ≤ (w3.drewN q4).heap.size := Nat.le_refl _
      have B4 : Below w.heap.size w (w3.drewN q4) := below_drewN B3 q4
      have ovg4 : IOwn (w3.drewN q4) _ vg _ := ovg3
      have ovt4 : IOwn (w3.drewN q4) _ vt _ := ovt3
      have ovs4 : IOwn (w3.drewN q4) _ vs _ := ovs3
      clear B3 ovg3 ovt3 ovs3
      generalize w3.drewN q4 = w4 at *
      clear ovs4 hvs
      obtain ⟨At, ct, rfl, hlct, hmt, -⟩ := id (ovt4.rd)
      obtain ⟨Ag, cg, rfl, hlcg, hmg, -⟩ := id (ovg4.rd)
      go_wp2_with fail
      refine (implMeasureOf_any w4 _ _ t (ovt4.rd)).mono ?_
      rintro e w5 ⟨vx, rfl, ovx5, b5⟩
      rw [HA.out]
      rw [HMM.out] at ovx5
      have z5 := b5.size
      have hvx : ∀ g, vx.ownBlock = some g → g < w5.heap.size := fun g hg => (ovx5.ge g hg).2
      have B5 := below_step B4 b5 (by omega)
      have ovg5 := ovg4.keep (SameAt.of_below b5)
      have ovt5 := ovt4.keep (SameAt.of_below b5)
      clear B4 b5 ovg4 ovt4
      go_wp2_with fail
      refine (implAdditiveOk_any w5 _ _ t (ovt5.rd)).mono ?_
      rintro e w6 ⟨rfl, b6⟩
      rw [HA.out]
      have z6 := b6.size
      have B6 := below_step B5 b6 (by omega)
      have ovg6 := ovg5.keep (SameAt.of_below b6)
      have ovt6 := ovt5.keep (SameAt.of_below b6)
      have ovx6 := ovx5.keep (SameAt.of_below b6)
      clear B5 b6 ovg5 ovt5 ovx5
      go_wp2_with fail
      refine (sameInts_any w6 vx _ _ _ (ovx6.rd) (ovg6.rd)).mono ?_
      rintro e w' ⟨q7, rfl, rfl⟩
      rw [decide_self]
      have z7 : w6.heap.size ≤ (w6.drewN q7).heap.size := Nat.le_refl _
      have B7 : Below w.heap.size w (w6.drewN q7) := below_drewN B6 q7
      have ovg7 : IOwn (w6.drewN q7) _ _ _ := ovg6
      have ovt7 : IOwn (w6.drewN q7) _ _ _ := ovt6
      have ovx7 : IOwn (w6.drewN q7) _ vx _ := ovx6
      clear B6 ovg6 ovt6 ovx6
      generalize w6.drewN q7 = w7 at *
      go_wp2_with fail
      go_ret
      exact ⟨ret_bool (by simp), B7⟩
    · have HM := Lib.hid h
      have HR := Lib.hid (tabR_no h)
      clear h
      go_wp2_with fail
      refine (implTableOf_any w1 vg _ (ovg1.rd)).mono ?_
      rintro e w2 ⟨vt, rfl, ovt2, b2⟩
      rw [HR.out] at ovt2
      have z2 := b2.size
      have hvt : ∀ g, vt.ownBlock = some g → g < w2.heap.size := fun g hg => (ovt2.ge g hg).2
      have B2 := below_step B1 b2 (by omega)
      have ovg2 := ovg1.keep (SameAt.of_below b2)
      clear B1 b2 ovg1
      go_wp2_with fail
      refine (specTableOf_any w2 vg _ (ovg2.rd)).mono ?_
      rintro e w3 ⟨vs, rfl, ovs3, b3⟩
      rw [HR.out] at ovs3
      have z3 := b3.size
      have hvs : ∀ g, vs.ownBlock = some g → g < w3.heap.size := fun g hg => (ovs3.ge g hg).2
      have B3 := below_step B2 b3 (by omega)
      have ovg3 := ovg2.keep (SameAt.of_below b3)
      have ovt3 := ovt2.keep (SameAt.of_below b3)
      clear B2 b3 ovg2 ovt2
      go_wp2_with fail
      refine (sameInts_any w3 vt vs _ _ (ovt3.rd) (ovs3.rd)).mono ?_
      rintro e w' ⟨q4, rfl, rfl⟩
      rw [decide_self]
      have z4 : w3.heap.size ≤ (w3.drewN q4).heap.size := Nat.le_refl _
      have B4 : Below w.heap.size w (w3.drewN q4) := below_drewN B3 q4
      have ovg4 : IOwn (w3.drewN q4) _ vg _ := ovg3
      have ovt4 : IOwn (w3.drewN q4) _ vt _ := ovt3
      have ovs4 : IOwn (w3.drewN q4) _ vs _ := ovs3
      clear B3 ovg3 ovt3 ovs3
      generalize w3.drewN q4 = w4 at *
      clear ovs4 hvs
      obtain ⟨At, ct, rfl, hlct, hmt, -⟩ := id (ovt4.rd)
      go_wp2_with fail
      refine (implMeasureOk_any _ _ _ (ovg4.rd)).mono ?_
      rintro e w' ⟨rfl, rfl⟩
      rw [HM.out]
      go_wp2_with fail
      refine (alive_any _).mono ?_
      rintro e w' ⟨rfl, rfl⟩
      go_wp2_with fail
      go_ret
      exact ⟨ret_bool (by simp), B4⟩

end Go.Proofs.Ytempdaodmjiloaa
