/- The walk of the law of MeasureOf. Conditions: a row of bytes that came in. -/
import Derived.Test.YtempdaodmjiloaaVb
import Derived.Test.YtempdaodmjiloaaUi
namespace Go.Proofs.Ytempdaodmjiloaa
open Go.RowKit
set_option linter.unusedVariables false

set_option maxRecDepth 100000 in
set_option maxHeartbeats 8000000 in
theorem FnMeasureOf_walk (a0 : Option Addr) (len0 cap0 : Nat) (z0 : List Int) (w : World) (w0 : IsRowC .u8 w a0 len0 cap0 z0) :
    Calls Try.prog 7 #[.slice a0 len0 cap0] w fun e w' => e = .returned (.bool true) ∧ Below w.heap.size w w' := by
  by_cases hlen : 1048576 < len0
  · clear w0
    go_enter Try.func7, Try.ntmps7
    go_wp2
    go_ret
    exact ⟨rfl, Below.refl _ _⟩
  · have hlen' : decide (1048576 < len0) = false := by simpa using hlen
    go_enter Try.func7, Try.ntmps7
    go_wp2_with fail
    refine (drawMeasureOf_any _ _ _ _ _ w0).mono ?_
    rintro e w1 ⟨n, vt, t, rfl, ovt1, hl17, hn1, hn5, B1⟩
    clear hlen hlen' w0
    have z1 := B1.size
    rcases Bool.eq_false_or_eq_true (addB n t) with h | h
    · have HA := Lib.hid h
      obtain ⟨k1, k2, k3⟩ := add_meas h
      obtain ⟨m, hm⟩ : ∃ m, measL n t = m := ⟨_, rfl⟩
      have HM : Hid (measR n t = m) := Lib.hid ((measR_yes h).trans hm)
      rw [hm] at k1 k2 k3
      have HK := Lib.hid k1
      have HT : Hid (tabR m = t) := Lib.hid ((tabR_yes k1).trans k2)
      clear h hm k1 k2 k3
      go_wp2_with fail
      refine (implMeasureOf_any w1 n vt t (ovt1.rd)).mono ?_
      rintro e w2 ⟨vm, rfl, ovm2, b2⟩
      rw [HA.out]
      rw [HM.out] at ovm2
      have z2 := b2.size
      have hvm : ∀ g, vm.ownBlock = some g → g < w2.heap.size := fun g hg => (ovm2.ge g hg).2
      have B2 := below_step B1 b2 (by omega)
      have ovt2 := ovt1.keep (SameAt.of_below b2)
      clear B1 b2 ovt1
      go_wp2_with fail
      refine (specMeasureOf_any w2 n vt t (ovt2.rd)).mono ?_
      rintro e w3 ⟨vx, rfl, ovx3, b3⟩
      rw [HA.out]
      rw [HM.out] at ovx3
      have z3 := b3.size
      have hvx : ∀ g, vx.ownBlock = some g → g < w3.heap.size := fun g hg => (ovx3.ge g hg).2
      have B3 := below_step B2 b3 (by omega)
      have ovt3 := ovt2.keep (SameAt.of_below b3)
      have ovm3 := ovm2.keep (SameAt.of_below b3)
      clear B2 b3 ovt2 ovm2
      go_wp2_with fail
      refine (sameInts_any w3 vm vx _ _ (ovm3.rd) (ovx3.rd)).mono ?_
      rintro e w' ⟨q4, rfl, rfl⟩
      rw [decide_self]
      have z4 : w3.heap.size ≤ (w3.drewN q4).heap.size := Nat.le_refl _
      have B4 : Below w.heap.size w (w3.drewN q4) := below_drewN B3 q4
      have ovt4 : IOwn (w3.drewN q4) _ vt _ := ovt3
      have ovm4 : IOwn (w3.drewN q4) _ vm _ := ovm3
      have ovx4 : IOwn (w3.drewN q4) _ vx _ := ovx3
      clear B3 ovt3 ovm3 ovx3
      generalize w3.drewN q4 = w4 at *
      clear ovx4 hvx
      go_wp2_with fail
      refine (implMeasureOk_any _ _ _ (ovm4.rd)).mono ?_
      rintro e w' ⟨rfl, rfl⟩
      rw [HK.out]
      go_wp2_with fail
      refine (implTableOf_any w4 vm _ (ovm4.rd)).mono ?_
      rintro e w5 ⟨vs, rfl, ovs5, b5⟩
      rw [HT.out] at ovs5
      have z5 := b5.size
      have hvs : ∀ g, vs.ownBlock = some g → g < w5.heap.size := fun g hg => (ovs5.ge g hg).2
      have B5 := below_step B4 b5 (by omega)
      have ovt5 := ovt4.keep (SameAt.of_below b5)
      have ovm5 := ovm4.keep (SameAt.of_below b5)
      clear B4 b5 ovt4 ovm4
      go_wp2_with fail
      refine (sameInts_any w5 vs vt _ _ (ovs5.rd) (ovt5.rd)).mono ?_
      rintro e w' ⟨q6, rfl, rfl⟩
      rw [decide_self]
      have z6 : w5.heap.size ≤ (w5.drewN q6).heap.size := Nat.le_refl _
      have B6 : Below w.heap.size w (w5.drewN q6) := below_drewN B5 q6
      have ovt6 : IOwn (w5.drewN q6) _ vt _ := ovt5
      have ovm6 : IOwn (w5.drewN q6) _ vm _ := ovm5
      have ovs6 : IOwn (w5.drewN q6) _ vs _ := ovs5
      clear B5 ovt5 ovm5 ovs5
      generalize w5.drewN q6 = w6 at *
      go_wp2_with fail
      go_ret
      exact ⟨ret_bool (by simp), B6⟩
    · have HA := Lib.hid h
      have HM := Lib.hid (measR_no h)
      clear h
      go_wp2_with fail
      refine (implMeasureOf_any w1 n vt t (ovt1.rd)).mono ?_
      rintro e w2 ⟨vm, rfl, ovm2, b2⟩
      rw [HA.out]
      rw [HM.out] at ovm2
      have z2 := b2.size
      have hvm : ∀ g, vm.ownBlock = some g → g < w2.heap.size := fun g hg => (ovm2.ge g hg).2
      have B2 := below_step B1 b2 (by omega)
      have ovt2 := ovt1.keep (SameAt.of_below b2)
      clear B1 b2 ovt1
      go_wp2_with fail
      refine (specMeasureOf_any w2 n vt t (ovt2.rd)).mono ?_
      rintro e w3 ⟨vx, rfl, ovx3, b3⟩
      rw [HA.out]
      rw [HM.out] at ovx3
      have z3 := b3.size
      have hvx : ∀ g, vx.ownBlock = some g → g < w3.heap.size := fun g hg => (ovx3.ge g hg).2
      have B3 := below_step B2 b3 (by omega)
      have ovt3 := ovt2.keep (SameAt.of_below b3)
      have ovm3 := ovm2.keep (SameAt.of_below b3)
      clear B2 b3 ovt2 ovm2
      go_wp2_with fail
      refine (sameInts_any w3 vm vx _ _ (ovm3.rd) (ovx3.rd)).mono ?_
      rintro e w' ⟨q4, rfl, rfl⟩
      rw [decide_self]
      have z4 : w3.heap.size ≤ (w3.drewN q4).heap.size := Nat.le_refl _
      have B4 : Below w.heap.size w (w3.drewN q4) := below_drewN B3 q4
      have ovt4 : IOwn (w3.drewN q4) _ vt _ := ovt3
      have ovm4 : IOwn (w3.drewN q4) _ vm _ := ovm3
      have ovx4 : IOwn (w3.drewN q4) _ vx _ := ovx3
      clear B3 ovt3 ovm3 ovx3
      generalize w3.drewN q4 = w4 at *
      clear ovx4 hvx
      obtain ⟨Am, cm, rfl, hlcm, hmm, -⟩ := id (ovm4.rd)
      go_wp2_with fail
      refine (implAdditiveOk_any w4 n vt t (ovt4.rd)).mono ?_
      rintro e w5 ⟨rfl, b5⟩
      rw [HA.out]
      have z5 := b5.size
      have B5 := below_step B4 b5 (by omega)
      have ovt5 := ovt4.keep (SameAt.of_below b5)
      have ovm5 := ovm4.keep (SameAt.of_below b5)
      clear B4 b5 ovt4 ovm4
      go_wp2_with fail
      refine (alive_any _).mono ?_
      rintro e w' ⟨rfl, rfl⟩
      go_wp2_with fail
      go_ret
      exact ⟨ret_bool (by simp), B5⟩

end Go.Proofs.Ytempdaodmjiloaa
