/- The walks of the exact laws of chapter 7. Conditions: stated at each. -/
import Derived.Test.YtkanfolgppbklaaVc
import Derived.Test.YtkanfolgppbklaaVd
namespace Go.Proofs.Ytkanfolgppbklaa
open Go.RowKit
set_option linter.unusedVariables false

theorem tabR_len (m : List Int) : (tabR m).length ≤ 16 := by
  unfold tabR
  split
  · next h => rw [tab_len]; exact pow_16 (grs_of h).2
  · simp

theorem measR_len (n : Int) (t : List Int) : (measR n t).length ≤ 4 := by
  unfold measR
  split
  · next h =>
    obtain ⟨m, rfl, -, m4, -⟩ := tok_len ((addB_iff _ _).1 h).1
    rw [meas_len, Int.toNat_natCast]; exact m4
  · simp

theorem betsL_len (n : Int) (t : List Int) : (betsL n t).length ≤ 3 := by
  rcases Bool.eq_false_or_eq_true (agB n t) with h | h
  · exact (bets_bring h).2.2.1
  · rw [bets_no h]; simp

set_option maxHeartbeats 4000000 in
theorem exactBringsIn_any (w : World) (vbs : Value) (bs : List Bt) (u : Int) (hvbs : BRd w vbs bs) :
    Calls Try.prog 5 #[vbs, .int .i64 u] w fun e w' => e = .returned (.bool true) ∧ Below w.heap.size w w' := by
  obtain ⟨Abs, cbs, rfl, hlbs, hmbs⟩ := hvbs.form
  have HVbs := Lib.hid hvbs
  clear hvbs
  by_cases hbigbs : 1048576 < bs.length
  · go_enter Try.func5, Try.ntmps5
    go_wp2_with fail
    refine (szBetS_big w Abs bs.length cbs hbigbs (by omega)).mono ?_
    rintro e w' ⟨rfl, rfl⟩
    go_wp2_with fail
    go_ret
    exact ⟨rfl, Below.refl _ _⟩
  have hnbs : bs.length ≤ 1048576 := by omega
  have hnbs' : (bs.length : Int) ≤ 1048576 := by omega
  obtain ⟨t, ht⟩ : ∃ t, bsN bs u = t := ⟨_, rfl⟩
  obtain ⟨b, hb⟩ : ∃ b, bsB bs u = b := ⟨_, rfl⟩
  go_enter Try.func5, Try.ntmps5
  go_wp2_with fail
  have B0 : Below w.heap.size w w := Below.refl _ _
  have z0 : w.heap.size ≤ w.heap.size := Nat.le_refl _
  go_wp2_with fail
  refine (szBetS_small w Abs bs.length cbs hnbs).mono ?_
  rintro e w' ⟨rfl, rfl⟩
  go_wp2_with fail
  refine (toBetS_any w _ bs (HVbs.out.keep (SameAt.of_below B0)) hnbs).mono ?_
  rintro e w1 ⟨va, rfl, ova1, b1⟩
  have z1 := b1.size
  have hva : ∀ g, va.ownBlock = some g → g < w1.heap.size := fun g hg => (ova1.ge g hg).2
  have B1 := below_step B0 b1 (by omega)
  clear B0 b1
  go_wp2_with fail
  refine (specBringsIn_any w1 u va bs (ova1.rd bC_len) hnbs).mono ?_
  rintro e w2 ⟨rfl, b2⟩
  rw [ht, hb]
  have z2 := b2.size
  have B2 := below_step B1 b2 (by omega)
  have ova2 := ova1.keep (SameAt.of_below b2)
  clear B1 b2 ova1
  clear ova2 hva
  go_wp2_with fail
  refine (toBetS_any w2 _ bs (HVbs.out.keep (SameAt.of_below B2)) hnbs).mono ?_
  rintro e w3 ⟨vc, rfl, ovc3, b3⟩
  have z3 := b3.size
  have hvc : ∀ g, vc.ownBlock = some g → g < w3.heap.size := fun g hg => (ovc3.ge g hg).2
  have B3 := below_step B2 b3 (by omega)
  clear B2 b3
  go_wp2_with fail
  refine (implBringsIn_any w3 u vc bs (ovc3.rd bC_len) hnbs).mono ?_
  rintro e w4 ⟨rfl, b4⟩
  rw [ht, hb]
  have z4 := b4.size
  have B4 := below_step B3 b4 (by omega)
  have ovc4 := ovc3.keep (SameAt.of_below b4)
  clear B3 b4 ovc3
  cases b
  all_goals
    go_wp2_with fail
    refine (toBetS_any w4 _ bs (HVbs.out.keep (SameAt.of_below B4)) hnbs).mono ?_
    rintro e w5 ⟨ve, rfl, ove5, b5⟩
    have z5 := b5.size
    have hve : ∀ g, ve.ownBlock = some g → g < w5.heap.size := fun g hg => (ove5.ge g hg).2
    have B5 := below_step B4 b5 (by omega)
    have ovc5 := ovc4.keep (SameAt.of_below b5)
    clear B4 b5 ovc4
    go_wp2_with fail
    refine (eqBetS_any w5 vc ve _ _ (ovc5.rd bC_len) (ove5.rd bC_len)).mono ?_
    rintro e w6 ⟨rfl, b6⟩
    rw [show ∀ x : List Bt, decide (x = x) = true from fun x => by simp]
    have z6 := b6.size
    have B6 := below_step B5 b6 (by omega)
    have ovc6 := ovc5.keep (SameAt.of_below b6)
    have ove6 := ove5.keep (SameAt.of_below b6)
    clear B5 b6 ovc5 ove5
    go_wp2_with fail
    go_ret
    exact ⟨rfl, B6⟩

theorem FnExactBringsIn_walk (v0 : Value) (z0 : List Bt) (a1 : Int) (w : World) (w0 : BRd w v0 z0) (w1 : (Lit.int .i64 a1).wf = true) :
    Calls Try.prog 5 #[v0, .int .i64 a1] w fun e w' => e = .returned (.bool true) ∧ Below w.heap.size w w' := by
  exact exactBringsIn_any w v0 z0 a1 w0

end Go.Proofs.Ytkanfolgppbklaa
