/- The walks of the exact laws of chapter 9. Conditions: stated at each. (gen_xq.py) -/
import Derived.Test.YtkochmmlcenncaaXp
namespace Go.Proofs.Ytkochmmlcenncaa
open Go.RowKit
set_option linter.unusedVariables false

set_option maxHeartbeats 1000000 in
theorem FnExactTermOk_walk (v0 : Value) (z0 : List Qt) (w : World) (w0 : QRd w v0 z0) :
    Calls Try.prog 8 #[v0] w fun e w' => e = .returned (.bool true) ∧ Below w.heap.size w w' := by
  obtain ⟨A, c, rfl, hlc, hm⟩ := w0.form
  have HV := Lib.hid w0
  clear w0
  by_cases hbig : 1048576 < z0.length
  · go_enter Try.func8, Try.ntmps8
    go_wp2_with fail
    refine (szMarkS_big w A z0.length c hbig (by omega)).mono ?_
    rintro e w' ⟨rfl, rfl⟩
    go_wp2_with fail
    go_ret
    exact ⟨rfl, Below.refl _ _⟩
  · have hn : z0.length ≤ 1048576 := by omega
    have hn' : (z0.length : Int) ≤ 1048576 := by omega
    obtain ⟨t, ht⟩ : ∃ t, tmB z0 = t := ⟨_, rfl⟩
    go_enter Try.func8, Try.ntmps8
    have B0 : Below w.heap.size w w := Below.refl _ _
    have z0' : w.heap.size ≤ w.heap.size := Nat.le_refl _
    go_wp2_with fail
    refine (szMarkS_small w A z0.length c hn).mono ?_
    rintro e w' ⟨rfl, rfl⟩
    go_wp2_with fail
    refine (toMarkS_any w _ z0 (HV.out.keep (SameAt.of_below B0)) hn).mono ?_
    rintro e w1 ⟨va, rfl, ova1, b1⟩
    have z1 := b1.size
    have B1 := below_step B0 b1 (by omega)
    clear B0 b1
    go_wp2_with fail
    refine (specTermOk_any w1 va z0 (ova1.rd qC_len)).mono ?_
    rintro e w2 ⟨rfl, b2⟩
    rw [ht]
    have z2 := b2.size
    have B2 := below_step B1 b2 (by omega)
    clear B1 b2 ova1
    go_wp2_with fail
    refine (toMarkS_any w2 _ z0 (HV.out.keep (SameAt.of_below B2)) hn).mono ?_
    rintro e w3 ⟨vc, rfl, ovc3, b3⟩
    have z3 := b3.size
    have B3 := below_step B2 b3 (by omega)
    clear B2 b3
    go_wp2_with fail
    refine (implTermOk_any w3 vc z0 (ovc3.rd qC_len)).mono ?_
    rintro e w4 ⟨rfl, b4⟩
    rw [ht]
    have z4 := b4.size
    have B4 := below_step B3 b4 (by omega)
    have ovc4 := ovc3.keep (SameAt.of_below b4)
    clear B3 b4 ovc3 ht
    cases t
    all_goals
      go_wp2_with fail
      refine (toMarkS_any w4 _ z0 (HV.out.keep (SameAt.of_below B4)) hn).mono ?_
      rintro e w5 ⟨ve, rfl, ove5, b5⟩
      have z5 := b5.size
      have B5 := below_step B4 b5 (by omega)
      have ovc5 := ovc4.keep (SameAt.of_below b5)
      clear B4 b5 ovc4
      go_wp2_with fail
      refine (eqMarkS_any w5 vc ve _ _ (ovc5.rd qC_len) (ove5.rd qC_len)).mono ?_
      rintro e w6 ⟨rfl, b6⟩
      rw [show ∀ x : List Qt, decide (x = x) = true from fun x => by simp]
      have z6 := b6.size
      have B6 := below_step B5 b6 (by omega)
      clear B5 b6 ovc5 ove5
      go_wp2_with fail
      go_ret
      exact ⟨rfl, B6⟩

set_option maxHeartbeats 1000000 in
theorem FnExactEventOfTerm_walk (v0 : Value) (z0 : List Qt) (w : World) (w0 : QRd w v0 z0) :
    Calls Try.prog 9 #[v0] w fun e w' => e = .returned (.bool true) ∧ Below w.heap.size w w' := by
  obtain ⟨A, c, rfl, hlc, hm⟩ := w0.form
  have HV := Lib.hid w0
  clear w0
  by_cases hbig : 1048576 < z0.length
  · go_enter Try.func9, Try.ntmps9
    go_wp2_with fail
    refine (szMarkS_big w A z0.length c hbig (by omega)).mono ?_
    rintro e w' ⟨rfl, rfl⟩
    go_wp2_with fail
    go_ret
    exact ⟨rfl, Below.refl _ _⟩
  · have hn : z0.length ≤ 1048576 := by omega
    have hn' : (z0.length : Int) ≤ 1048576 := by omega
    obtain ⟨t, ht⟩ : ∃ t, evI z0 = t := ⟨_, rfl⟩
    go_enter Try.func9, Try.ntmps9
    have B0 : Below w.heap.size w w := Below.refl _ _
    have z0' : w.heap.size ≤ w.heap.size := Nat.le_refl _
    go_wp2_with fail
    refine (szMarkS_small w A z0.length c hn).mono ?_
    rintro e w' ⟨rfl, rfl⟩
    go_wp2_with fail
    refine (toMarkS_any w _ z0 (HV.out.keep (SameAt.of_below B0)) hn).mono ?_
    rintro e w1 ⟨va, rfl, ova1, b1⟩
    have z1 := b1.size
    have B1 := below_step B0 b1 (by omega)
    clear B0 b1
    go_wp2_with fail
    refine (specEventOfTerm_any w1 va z0 (ova1.rd qC_len)).mono ?_
    rintro e w2 ⟨rfl, b2⟩
    rw [ht]
    have z2 := b2.size
    have B2 := below_step B1 b2 (by omega)
    clear B1 b2 ova1
    go_wp2_with fail
    refine (toMarkS_any w2 _ z0 (HV.out.keep (SameAt.of_below B2)) hn).mono ?_
    rintro e w3 ⟨vc, rfl, ovc3, b3⟩
    have z3 := b3.size
    have B3 := below_step B2 b3 (by omega)
    clear B2 b3
    go_wp2_with fail
    refine (implEventOfTerm_any w3 vc z0 (ovc3.rd qC_len)).mono ?_
    rintro e w4 ⟨rfl, b4⟩
    rw [ht]
    have z4 := b4.size
    have B4 := below_step B3 b4 (by omega)
    have ovc4 := ovc3.keep (SameAt.of_below b4)
    clear B3 b4 ovc3 ht
    all_goals
      go_wp2_with fail
      refine (toMarkS_any w4 _ z0 (HV.out.keep (SameAt.of_below B4)) hn).mono ?_
      rintro e w5 ⟨ve, rfl, ove5, b5⟩
      have z5 := b5.size
      have B5 := below_step B4 b5 (by omega)
      have ovc5 := ovc4.keep (SameAt.of_below b5)
      clear B4 b5 ovc4
      go_wp2_with fail
      refine (eqMarkS_any w5 vc ve _ _ (ovc5.rd qC_len) (ove5.rd qC_len)).mono ?_
      rintro e w6 ⟨rfl, b6⟩
      rw [show ∀ x : List Qt, decide (x = x) = true from fun x => by simp]
      have z6 := b6.size
      have B6 := below_step B5 b6 (by omega)
      clear B5 b6 ovc5 ove5
      go_wp2_with fail
      go_ret
      exact ⟨rfl, B6⟩

set_option maxHeartbeats 1000000 in
theorem FnExactTermText_walk (v0 : Value) (z0 : List Qt) (w : World) (w0 : QRd w v0 z0) :
    Calls Try.prog 10 #[v0] w fun e w' => e = .returned (.bool true) ∧ Below w.heap.size w w' := by
  obtain ⟨A, c, rfl, hlc, hm⟩ := w0.form
  have HV := Lib.hid w0
  clear w0
  by_cases hbig : 1048576 < z0.length
  · go_enter Try.func10, Try.ntmps10
    go_wp2_with fail
    refine (szMarkS_big w A z0.length c hbig (by omega)).mono ?_
    rintro e w' ⟨rfl, rfl⟩
    go_wp2_with fail
    go_ret
    exact ⟨rfl, Below.refl _ _⟩
  · have hn : z0.length ≤ 1048576 := by omega
    have hn' : (z0.length : Int) ≤ 1048576 := by omega
    obtain ⟨t, ht⟩ : ∃ t, txtI z0 = t := ⟨_, rfl⟩
    go_enter Try.func10, Try.ntmps10
    have B0 : Below w.heap.size w w := Below.refl _ _
    have z0' : w.heap.size ≤ w.heap.size := Nat.le_refl _
    go_wp2_with fail
    refine (szMarkS_small w A z0.length c hn).mono ?_
    rintro e w' ⟨rfl, rfl⟩
    go_wp2_with fail
    refine (toMarkS_any w _ z0 (HV.out.keep (SameAt.of_below B0)) hn).mono ?_
    rintro e w1 ⟨va, rfl, ova1, b1⟩
    have z1 := b1.size
    have B1 := below_step B0 b1 (by omega)
    clear B0 b1
    go_wp2_with fail
    refine (specTermText_any w1 va z0 (ova1.rd qC_len)).mono ?_
    rintro e w2 ⟨rfl, b2⟩
    rw [ht]
    have z2 := b2.size
    have B2 := below_step B1 b2 (by omega)
    clear B1 b2 ova1
    go_wp2_with fail
    refine (toMarkS_any w2 _ z0 (HV.out.keep (SameAt.of_below B2)) hn).mono ?_
    rintro e w3 ⟨vc, rfl, ovc3, b3⟩
    have z3 := b3.size
    have B3 := below_step B2 b3 (by omega)
    clear B2 b3
    go_wp2_with fail
    refine (implTermText_any w3 vc z0 (ovc3.rd qC_len)).mono ?_
    rintro e w4 ⟨rfl, b4⟩
    rw [ht]
    have z4 := b4.size
    have B4 := below_step B3 b4 (by omega)
    have ovc4 := ovc3.keep (SameAt.of_below b4)
    clear B3 b4 ovc3 ht
    all_goals
      go_wp2_with fail
      refine (toMarkS_any w4 _ z0 (HV.out.keep (SameAt.of_below B4)) hn).mono ?_
      rintro e w5 ⟨ve, rfl, ove5, b5⟩
      have z5 := b5.size
      have B5 := below_step B4 b5 (by omega)
      have ovc5 := ovc4.keep (SameAt.of_below b5)
      clear B4 b5 ovc4
      go_wp2_with fail
      refine (eqMarkS_any w5 vc ve _ _ (ovc5.rd qC_len) (ove5.rd qC_len)).mono ?_
      rintro e w6 ⟨rfl, b6⟩
      rw [show ∀ x : List Qt, decide (x = x) = true from fun x => by simp]
      have z6 := b6.size
      have B6 := below_step B5 b6 (by omega)
      clear B5 b6 ovc5 ove5
      go_wp2_with fail
      go_ret
      exact ⟨rfl, B6⟩

theorem sumTR_len (e : Int) : (sumTR e).length ≤ 40 := by
  unfold sumTR
  split
  · next h =>
    obtain ⟨-, -, h0, h1⟩ := (evB_iff _ _).1 h
    have h15 : e ≤ 15 := by simpa [allI] using h1
    have := sum_len ⟨e.toNat, by omega⟩
    exact this
  · simp

theorem rdL_len (S : ByteArray) : (rdL S).length ≤ 40 := by
  rcases Bool.eq_false_or_eq_true (rdB S) with h | h
  · obtain ⟨T, hT, e⟩ := rd_tree h
    rw [e]; exact hT.2.1
  · rw [rd_nil h]; simp

set_option maxHeartbeats 1000000 in
theorem FnExactSumTerm_walk (a0 : Int) (w : World) (w0 : (Lit.int .i64 a0).wf = true) :
    Calls Try.prog 12 #[.int .i64 a0] w fun e w' => e = .returned (.bool true) ∧ Below w.heap.size w w' := by
  have hL := sumTR_len a0
  · skip
    go_enter Try.func12, Try.ntmps12
    go_wp2_with fail
    refine (specSumTerm_any w a0).mono ?_
    rintro e w1 ⟨vw, rfl, ovw1, b1⟩
    have z1 := b1.size
    have hvw : ∀ g, vw.ownBlock = some g → g < w1.heap.size := fun g hg => (ovw1.ge g hg).2
    have B1 := b1
    clear b1
    go_wp2_with fail
    refine (implSumTerm_any w1 a0).mono ?_
    rintro e w2 ⟨vg, rfl, ovg2, b2⟩
    have z2 := b2.size
    have B2 := below_step B1 b2 (by omega)
    have ovw2 := ovw1.keep (SameAt.of_below b2)
    clear B1 b2 ovw1
    go_wp2_with fail
    refine (eqMarkS_any w2 vg vw _ _ (ovg2.rd qC_len) (ovw2.rd qC_len)).mono ?_
    rintro e w3 ⟨rfl, b3⟩
    rw [show ∀ x : List Qt, decide (x = x) = true from fun x => by simp]
    have z3 := b3.size
    have B3 := below_step B2 b3 (by omega)
    have ovw3 := ovw2.keep (SameAt.of_below b3)
    have ovg3 := ovg2.keep (SameAt.of_below b3)
    clear B2 b3 ovw2 ovg2
    go_wp2_with fail
    refine (markMarkS_any w3 _ 1 vg _ ovg3 (by omega) (by omega) (by omega)).mono ?_
    rintro e w4 ⟨rfl, g4, y4, ovg4⟩
    have z4 : w3.heap.size ≤ w4.heap.size := by omega
    have B4 := below_grownG B3 g4 ovg3 (by omega) (by omega)
    have ovw4 := ovw3.keep (SameAt.of_grown g4 (ovg3.far hvw))
    clear B3 ovw3 ovg3 g4
    go_wp2_with fail
    refine (heldMarkS_any w4 1 vg _ (ovg4.rd qC_len) (by omega) (by omega) (by omega)).mono ?_
    rintro e w' ⟨rfl, rfl⟩
    go_wp2_with fail
    refine (implSumTerm_any w4 a0).mono ?_
    rintro e w5 ⟨vj, rfl, ovj5, b5⟩
    have z5 := b5.size
    have B5 := below_step B4 b5 (by omega)
    have ovw5 := ovw4.keep (SameAt.of_below b5)
    have ovg5 := ovg4.keep (SameAt.of_below b5)
    clear B4 b5 ovw4 ovg4
    go_wp2_with fail
    refine (eqMarkS_any w5 vj vw _ _ (ovj5.rd qC_len) (ovw5.rd qC_len)).mono ?_
    rintro e w6 ⟨rfl, b6⟩
    rw [show ∀ x : List Qt, decide (x = x) = true from fun x => by simp]
    have z6 := b6.size
    have B6 := below_step B5 b6 (by omega)
    have ovg6 := ovg5.keep (SameAt.of_below b6)
    clear B5 b6 ovw5 ovj5 ovg5
    go_wp2_with fail
    refine (heldMarkS_any w6 1 vg _ (ovg6.rd qC_len) (by omega) (by omega) (by omega)).mono ?_
    rintro e w' ⟨rfl, rfl⟩
    go_wp2_with fail
    go_ret
    exact ⟨rfl, B6⟩

set_option maxHeartbeats 1000000 in
theorem FnExactReadTerm_walk (S : ByteArray) (w : World) (w0 : S.size ≤ 9223372036854775807) :
    Calls Try.prog 11 #[.string S] w fun e w' => e = .returned (.bool true) ∧ Below w.heap.size w w' := by
  have hL := rdL_len S
  obtain ⟨t, ht⟩ : ∃ t, rdB S = t := ⟨_, rfl⟩
  by_cases hbig : 1048576 < S.size
  · have hbig' : (1048576 : Int) < (S.size : Int) := by omega
    go_enter Try.func11, Try.ntmps11
    go_wp2_with fail
    go_ret
    exact ⟨rfl, Below.refl _ _⟩
  · have hsm : (S.size : Int) ≤ 1048576 := by omega
    go_enter Try.func11, Try.ntmps11
    cases t
    all_goals
      go_wp2_with fail
      refine (specReadTerm_any S w0 w).mono ?_
      rintro e w1 ⟨vw, rfl, ovw1, b1⟩
      rw [ht]
      have z1 := b1.size
      have hvw : ∀ g, vw.ownBlock = some g → g < w1.heap.size := fun g hg => (ovw1.ge g hg).2
      have B1 := b1
      clear b1
      go_wp2_with fail
      refine (implReadTerm_any S w0 w1).mono ?_
      rintro e w2 ⟨vg, rfl, ovg2, b2⟩
      rw [ht]
      have z2 := b2.size
      have B2 := below_step B1 b2 (by omega)
      have ovw2 := ovw1.keep (SameAt.of_below b2)
      clear B1 b2 ovw1
      go_wp2_with fail
      refine (eqMarkS_any w2 vg vw _ _ (ovg2.rd qC_len) (ovw2.rd qC_len)).mono ?_
      rintro e w3 ⟨rfl, b3⟩
      rw [show ∀ x : List Qt, decide (x = x) = true from fun x => by simp]
      have z3 := b3.size
      have B3 := below_step B2 b3 (by omega)
      have ovw3 := ovw2.keep (SameAt.of_below b3)
      have ovg3 := ovg2.keep (SameAt.of_below b3)
      clear B2 b3 ovw2 ovg2
      go_wp2_with fail
      refine (markMarkS_any w3 _ 1 vg _ ovg3 (by omega) (by omega) (by omega)).mono ?_
      rintro e w4 ⟨rfl, g4, y4, ovg4⟩
      have z4 : w3.heap.size ≤ w4.heap.size := by omega
      have B4 := below_grownG B3 g4 ovg3 (by omega) (by omega)
      have ovw4 := ovw3.keep (SameAt.of_grown g4 (ovg3.far hvw))
      clear B3 ovw3 ovg3 g4
      go_wp2_with fail
      refine (heldMarkS_any w4 1 vg _ (ovg4.rd qC_len) (by omega) (by omega) (by omega)).mono ?_
      rintro e w' ⟨rfl, rfl⟩
      go_wp2_with fail
      refine (implReadTerm_any S w0 w4).mono ?_
      rintro e w5 ⟨vj, rfl, ovj5, b5⟩
      rw [ht]
      have z5 := b5.size
      have B5 := below_step B4 b5 (by omega)
      have ovw5 := ovw4.keep (SameAt.of_below b5)
      have ovg5 := ovg4.keep (SameAt.of_below b5)
      clear B4 b5 ovw4 ovg4
      go_wp2_with fail
      refine (eqMarkS_any w5 vj vw _ _ (ovj5.rd qC_len) (ovw5.rd qC_len)).mono ?_
      rintro e w6 ⟨rfl, b6⟩
      rw [show ∀ x : List Qt, decide (x = x) = true from fun x => by simp]
      have z6 := b6.size
      have B6 := below_step B5 b6 (by omega)
      have ovg6 := ovg5.keep (SameAt.of_below b6)
      clear B5 b6 ovw5 ovj5 ovg5
      go_wp2_with fail
      refine (heldMarkS_any w6 1 vg _ (ovg6.rd qC_len) (by omega) (by omega) (by omega)).mono ?_
      rintro e w' ⟨rfl, rfl⟩
      go_wp2_with fail
      go_ret
      exact ⟨rfl, B6⟩

end Go.Proofs.Ytkochmmlcenncaa
