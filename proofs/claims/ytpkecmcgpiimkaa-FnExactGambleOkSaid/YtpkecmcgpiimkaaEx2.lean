/- The walks of the exact laws of the functions on gambles that return no row. Conditions: rows of ints that came in. -/
import Derived.Test.YtpkecmcgpiimkaaGf
namespace Go.Proofs.Ytpkecmcgpiimkaa
open Go.RowKit
set_option linter.unusedVariables false

set_option maxHeartbeats 2000000 in
theorem exactGambleOk_any (w : World) (v : Value) (xs : List Int) (hv : IRd w v xs) :
    Calls Try.prog 10 #[v] w fun e w' => e = .returned (.bool true) ∧ Below w.heap.size w w' := by
  obtain ⟨A, c, rfl, hlc, hm, -⟩ := id hv
  have HV := Lib.hid hv
  clear hv
  by_cases hbig : 1048576 < xs.length
  · have hbig' : (1048576 : Int) < (xs.length : Int) := by omega
    go_enter Try.func10, Try.ntmps10
    go_wp2_with fail
    go_ret
    exact ⟨rfl, Below.refl _ _⟩
  · have hbig' : (xs.length : Int) ≤ 1048576 := by omega
    have hn : xs.length ≤ 1048576 := by omega
    obtain ⟨t, hb⟩ : ∃ t, gokB xs = t := ⟨_, rfl⟩
    have HB := Lib.hid hb
    clear hb
    go_enter Try.func10, Try.ntmps10
    go_wp2_with fail
    refine (toIntS_any w _ xs HV.out hn).mono ?_
    rintro e w1 ⟨va, rfl, oa, b1⟩
    have z1 := b1.size
    go_wp2_with fail
    refine (specGambleOk_any w1 va xs oa.rd).mono ?_
    rintro e w' ⟨rfl, rfl⟩
    rw [HB.out]
    go_wp2_with fail
    refine (toIntS_any w1 _ xs (HV.out.keep (SameAt.of_below b1)) hn).mono ?_
    rintro e w2 ⟨vc, rfl, oc, b2⟩
    have B2 := below_step b1 b2 z1
    have z2 := b2.size
    clear oa b2 b1
    go_wp2_with fail
    refine (implGambleOk_any w2 vc xs oc.rd).mono ?_
    rintro e w' ⟨rfl, rfl⟩
    rw [HB.out]
    cases t
    all_goals
      go_wp2_with fail
      refine (toIntS_any w2 _ xs (HV.out.keep (SameAt.of_below B2)) hn).mono ?_
      rintro e w3 ⟨ve, rfl, oe, b3⟩
      have B3 := below_step B2 b3 (by omega)
      have oc3 := oc.keep (SameAt.of_below b3)
      clear b3 oc B2
      go_wp2_with fail
      refine (eqIntS_any w3 vc ve _ _ oc3.rd oe.rd).mono ?_
      rintro e w' ⟨q5, rfl, rfl⟩
      rw [decide_self]
      have B4 : Below w.heap.size w (w3.drewN q5) := below_drewN B3 q5
      go_wp2_with fail
      go_ret
      exact ⟨rfl, B4⟩

theorem FnExactGambleOk_walk (a0 : Option Addr) (len0 cap0 : Nat) (z0 : List Int) (w : World) (w0 : IsRowC .i64 w a0 len0 cap0 z0) :
    Calls Try.prog 10 #[.slice a0 len0 cap0] w fun e w' => e = .returned (.bool true) ∧ Below w.heap.size w w' := by
  obtain ⟨xs, h⟩ := ird_of_row w0
  exact exactGambleOk_any w _ xs h

set_option maxHeartbeats 2000000 in
theorem exactLosesOk_any (w : World) (v : Value) (xs : List Int) (hv : IRd w v xs) :
    Calls Try.prog 16 #[v] w fun e w' => e = .returned (.bool true) ∧ Below w.heap.size w w' := by
  obtain ⟨A, c, rfl, hlc, hm, -⟩ := id hv
  have HV := Lib.hid hv
  clear hv
  by_cases hbig : 1048576 < xs.length
  · have hbig' : (1048576 : Int) < (xs.length : Int) := by omega
    go_enter Try.func16, Try.ntmps16
    go_wp2_with fail
    go_ret
    exact ⟨rfl, Below.refl _ _⟩
  · have hbig' : (xs.length : Int) ≤ 1048576 := by omega
    have hn : xs.length ≤ 1048576 := by omega
    obtain ⟨t, hb⟩ : ∃ t, losesB xs = t := ⟨_, rfl⟩
    have HB := Lib.hid hb
    clear hb
    go_enter Try.func16, Try.ntmps16
    go_wp2_with fail
    refine (toIntS_any w _ xs HV.out hn).mono ?_
    rintro e w1 ⟨va, rfl, oa, b1⟩
    have z1 := b1.size
    go_wp2_with fail
    refine (specLosesOk_any w1 va xs oa.rd).mono ?_
    rintro e w' ⟨rfl, rfl⟩
    rw [HB.out]
    go_wp2_with fail
    refine (toIntS_any w1 _ xs (HV.out.keep (SameAt.of_below b1)) hn).mono ?_
    rintro e w2 ⟨vc, rfl, oc, b2⟩
    have B2 := below_step b1 b2 z1
    have z2 := b2.size
    clear oa b2 b1
    go_wp2_with fail
    refine (implLosesOk_any w2 vc xs oc.rd).mono ?_
    rintro e w' ⟨rfl, rfl⟩
    rw [HB.out]
    cases t
    all_goals
      go_wp2_with fail
      refine (toIntS_any w2 _ xs (HV.out.keep (SameAt.of_below B2)) hn).mono ?_
      rintro e w3 ⟨ve, rfl, oe, b3⟩
      have B3 := below_step B2 b3 (by omega)
      have oc3 := oc.keep (SameAt.of_below b3)
      clear b3 oc B2
      go_wp2_with fail
      refine (eqIntS_any w3 vc ve _ _ oc3.rd oe.rd).mono ?_
      rintro e w' ⟨q5, rfl, rfl⟩
      rw [decide_self]
      have B4 : Below w.heap.size w (w3.drewN q5) := below_drewN B3 q5
      go_wp2_with fail
      go_ret
      exact ⟨rfl, B4⟩

theorem FnExactLosesOk_walk (a0 : Option Addr) (len0 cap0 : Nat) (z0 : List Int) (w : World) (w0 : IsRowC .i64 w a0 len0 cap0 z0) :
    Calls Try.prog 16 #[.slice a0 len0 cap0] w fun e w' => e = .returned (.bool true) ∧ Below w.heap.size w w' := by
  obtain ⟨xs, h⟩ := ird_of_row w0
  exact exactLosesOk_any w _ xs h

set_option maxHeartbeats 2000000 in
theorem exactWorstOf_any (w : World) (v : Value) (xs : List Int) (hv : IRd w v xs) :
    Calls Try.prog 13 #[v] w fun e w' => e = .returned (.bool true) ∧ Below w.heap.size w w' := by
  obtain ⟨A, c, rfl, hlc, hm, -⟩ := id hv
  have HV := Lib.hid hv
  clear hv
  by_cases hbig : 1048576 < xs.length
  · have hbig' : (1048576 : Int) < (xs.length : Int) := by omega
    go_enter Try.func13, Try.ntmps13
    go_wp2_with fail
    go_ret
    exact ⟨rfl, Below.refl _ _⟩
  · have hbig' : (xs.length : Int) ≤ 1048576 := by omega
    have hn : xs.length ≤ 1048576 := by omega
    obtain ⟨t, hb⟩ : ∃ t, gokB xs = t := ⟨_, rfl⟩
    have HB := Lib.hid hb
    clear hb
    obtain ⟨r, hr⟩ : ∃ r, worstI xs = r := ⟨_, rfl⟩
    have HR := Lib.hid hr
    clear hr
    go_enter Try.func13, Try.ntmps13
    go_wp2_with fail
    refine (toIntS_any w _ xs HV.out hn).mono ?_
    rintro e w1 ⟨va, rfl, oa, b1⟩
    have z1 := b1.size
    go_wp2_with fail
    refine (specWorstOf_any w1 va xs oa.rd).mono ?_
    rintro e w' ⟨rfl, rfl⟩
    rw [HB.out, HR.out]
    go_wp2_with fail
    refine (toIntS_any w1 _ xs (HV.out.keep (SameAt.of_below b1)) hn).mono ?_
    rintro e w2 ⟨vc, rfl, oc, b2⟩
    have B2 := below_step b1 b2 z1
    have z2 := b2.size
    clear oa b2 b1
    go_wp2_with fail
    refine (implWorstOf_any w2 vc xs oc.rd).mono ?_
    rintro e w' ⟨rfl, rfl⟩
    rw [HB.out, HR.out]
    cases t
    all_goals
      go_wp2_with fail
      refine (toIntS_any w2 _ xs (HV.out.keep (SameAt.of_below B2)) hn).mono ?_
      rintro e w3 ⟨ve, rfl, oe, b3⟩
      have B3 := below_step B2 b3 (by omega)
      have oc3 := oc.keep (SameAt.of_below b3)
      clear b3 oc B2
      go_wp2_with fail
      refine (eqIntS_any w3 vc ve _ _ oc3.rd oe.rd).mono ?_
      rintro e w' ⟨q5, rfl, rfl⟩
      rw [decide_self]
      have B4 : Below w.heap.size w (w3.drewN q5) := below_drewN B3 q5
      go_wp2_with fail
      go_ret
      exact ⟨rfl, B4⟩

theorem FnExactWorstOf_walk (a0 : Option Addr) (len0 cap0 : Nat) (z0 : List Int) (w : World) (w0 : IsRowC .i64 w a0 len0 cap0 z0) :
    Calls Try.prog 13 #[.slice a0 len0 cap0] w fun e w' => e = .returned (.bool true) ∧ Below w.heap.size w w' := by
  obtain ⟨xs, h⟩ := ird_of_row w0
  exact exactWorstOf_any w _ xs h

set_option maxHeartbeats 2000000 in
theorem exactBestOf_any (w : World) (v : Value) (xs : List Int) (hv : IRd w v xs) :
    Calls Try.prog 14 #[v] w fun e w' => e = .returned (.bool true) ∧ Below w.heap.size w w' := by
  obtain ⟨A, c, rfl, hlc, hm, -⟩ := id hv
  have HV := Lib.hid hv
  clear hv
  by_cases hbig : 1048576 < xs.length
  · have hbig' : (1048576 : Int) < (xs.length : Int) := by omega
    go_enter Try.func14, Try.ntmps14
    go_wp2_with fail
    go_ret
    exact ⟨rfl, Below.refl _ _⟩
  · have hbig' : (xs.length : Int) ≤ 1048576 := by omega
    have hn : xs.length ≤ 1048576 := by omega
    obtain ⟨t, hb⟩ : ∃ t, gokB xs = t := ⟨_, rfl⟩
    have HB := Lib.hid hb
    clear hb
    obtain ⟨r, hr⟩ : ∃ r, bestI xs = r := ⟨_, rfl⟩
    have HR := Lib.hid hr
    clear hr
    go_enter Try.func14, Try.ntmps14
    go_wp2_with fail
    refine (toIntS_any w _ xs HV.out hn).mono ?_
    rintro e w1 ⟨va, rfl, oa, b1⟩
    have z1 := b1.size
    go_wp2_with fail
    refine (specBestOf_any w1 va xs oa.rd).mono ?_
    rintro e w' ⟨rfl, rfl⟩
    rw [HB.out, HR.out]
    go_wp2_with fail
    refine (toIntS_any w1 _ xs (HV.out.keep (SameAt.of_below b1)) hn).mono ?_
    rintro e w2 ⟨vc, rfl, oc, b2⟩
    have B2 := below_step b1 b2 z1
    have z2 := b2.size
    clear oa b2 b1
    go_wp2_with fail
    refine (implBestOf_any w2 vc xs oc.rd).mono ?_
    rintro e w' ⟨rfl, rfl⟩
    rw [HB.out, HR.out]
    cases t
    all_goals
      go_wp2_with fail
      refine (toIntS_any w2 _ xs (HV.out.keep (SameAt.of_below B2)) hn).mono ?_
      rintro e w3 ⟨ve, rfl, oe, b3⟩
      have B3 := below_step B2 b3 (by omega)
      have oc3 := oc.keep (SameAt.of_below b3)
      clear b3 oc B2
      go_wp2_with fail
      refine (eqIntS_any w3 vc ve _ _ oc3.rd oe.rd).mono ?_
      rintro e w' ⟨q5, rfl, rfl⟩
      rw [decide_self]
      have B4 : Below w.heap.size w (w3.drewN q5) := below_drewN B3 q5
      go_wp2_with fail
      go_ret
      exact ⟨rfl, B4⟩

theorem FnExactBestOf_walk (a0 : Option Addr) (len0 cap0 : Nat) (z0 : List Int) (w : World) (w0 : IsRowC .i64 w a0 len0 cap0 z0) :
    Calls Try.prog 14 #[.slice a0 len0 cap0] w fun e w' => e = .returned (.bool true) ∧ Below w.heap.size w w' := by
  obtain ⟨xs, h⟩ := ird_of_row w0
  exact exactBestOf_any w _ xs h

end Go.Proofs.Ytpkecmcgpiimkaa
