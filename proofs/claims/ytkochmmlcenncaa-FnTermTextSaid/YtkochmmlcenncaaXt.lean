/- The walk of the law of TermText (over the draw's contract: module Xs). Conditions: stated. -/
import Derived.Test.YtkochmmlcenncaaXs
namespace Go.Proofs.Ytkochmmlcenncaa
open Go.RowKit
set_option linter.unusedVariables false

set_option maxHeartbeats 1000000 in
theorem FnTermText_walk (a0 : Option Addr) (len0 cap0 : Nat) (z0 : List Int) (w : World) (w0 : IsRowC .u8 w a0 len0 cap0 z0) :
    Calls Try.prog 5 #[.slice a0 len0 cap0] w fun e w' => e = .returned (.bool true) ∧ Below w.heap.size w w' := by
  by_cases hlen : 1048576 < len0
  · clear w0
    go_enter Try.func5, Try.ntmps5
    go_wp2
    go_ret
    exact ⟨rfl, Below.refl _ _⟩
  · have hlen' : decide (1048576 < len0) = false := by simpa using hlen
    go_enter Try.func5, Try.ntmps5
    go_wp2_with fail
    refine (drawTermText_any _ _ _ _ _ w0).mono ?_
    rintro e w1 ⟨g, n, c, t, rfl, o1, rfl, l1, B1⟩
    clear hlen hlen' w0
    have HK1 : Hid (MOwn w1 w.heap.size (.slice (some ⟨g, 0, none⟩) t.length c) t ∧ Below w.heap.size w w1) := Lib.hid ⟨o1, B1⟩
    clear o1 B1
    obtain ⟨x, hx⟩ : ∃ x, txtI t = x := ⟨_, rfl⟩
    go_wp2_with fail
    refine (implTermText_any w1 _ t (HK1.out.1.rd qC_len)).mono ?_
    rintro e w2 ⟨rfl, b2⟩
    rw [hx]
    have HK2 : Hid (MOwn w2 w.heap.size (.slice (some ⟨g, 0, none⟩) t.length c) t ∧ Below w.heap.size w w2) := Lib.hid ⟨HK1.out.1.keep (SameAt.of_below b2), below_step HK1.out.2 b2 HK1.out.2.size⟩
    clear b2
    go_wp2_with fail
    refine (specTermText_any w2 _ t (HK2.out.1.rd qC_len)).mono ?_
    rintro e w3 ⟨rfl, b3⟩
    rw [hx]
    have HK3 : Hid (MOwn w3 w.heap.size (.slice (some ⟨g, 0, none⟩) t.length c) t ∧ Below w.heap.size w w3) := Lib.hid ⟨HK2.out.1.keep (SameAt.of_below b3), below_step HK2.out.2 b3 HK2.out.2.size⟩
    clear b3
    rcases Bool.eq_false_or_eq_true (tmB t) with h | h
    · obtain ⟨x1, x2, x3⟩ := txt_yes h
      have hsm := txtI_small t
      rw [hx] at x1 x2 x3 hsm
      have hsz : (⟨x.toArray⟩ : ByteArray).size ≤ 9223372036854775807 := by rw [size_mk]; omega
      have HSZ := Lib.hid hsz
      have e1 : (x == []) = false := by simpa using x1
      clear hx hsm x1 hsz
      go_wp2_with fail
      refine (implReadTerm_any _ HSZ.out w3).mono ?_
      rintro e w4 ⟨vx, rfl, o4, b4⟩
      rw [x3] at o4
      rw [x2]
      have HK4 : Hid (MOwn w4 w.heap.size (.slice (some ⟨g, 0, none⟩) t.length c) t ∧ MOwn w4 w3.heap.size vx t ∧ Below w.heap.size w w4) := Lib.hid ⟨HK3.out.1.keep (SameAt.of_below b4), o4, below_step HK3.out.2 b4 HK3.out.2.size⟩
      clear o4 b4
      go_wp2_with fail
      refine (sameMarks_any w4 vx _ t t (HK4.out.2.1.rd qC_len) (HK4.out.1.rd qC_len)).mono ?_
      rintro e w5 ⟨rfl, b5⟩
      rw [show decide (t = t) = true from by simp]
      have HB5 := Lib.hid (below_step HK4.out.2.2 b5 HK4.out.2.2.size)
      clear b5
      go_wp2_with fail
      go_ret
      exact ⟨rfl, HB5.out⟩
    · have hx0 : x = [] := by rw [← hx, txtI_no h]
      subst hx0
      clear hx
      go_wp2_with fail
      refine (implTermOk_any w3 _ t (HK3.out.1.rd qC_len)).mono ?_
      rintro e w4 ⟨rfl, b4⟩
      rw [h]
      have HB4 := Lib.hid (below_step HK3.out.2 b4 HK3.out.2.size)
      clear b4
      go_wp2_with fail
      refine (alive_any _).mono ?_
      rintro e w' ⟨rfl, rfl⟩
      go_wp2_with fail
      go_ret
      exact ⟨rfl, HB4.out⟩

end Go.Proofs.Ytkochmmlcenncaa
