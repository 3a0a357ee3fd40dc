/- The walk of the law of ReadTerm (over the draw's contract: module Xs). Conditions: stated. -/
import Derived.Test.YtkochmmlcenncaaXs
namespace Go.Proofs.Ytkochmmlcenncaa
open Go.RowKit
set_option linter.unusedVariables false

theorem bs_of (S : ByteArray) : S = ⟨(bs S).toArray⟩ := (bs_eq rfl).symm

set_option maxHeartbeats 1000000 in
theorem FnReadTerm_walk (a0 : Option Addr) (len0 cap0 : Nat) (z0 : List Int) (w : World) (w0 : IsRowC .u8 w a0 len0 cap0 z0) :
    Calls Try.prog 6 #[.slice a0 len0 cap0] w fun e w' => e = .returned (.bool true) ∧ Below w.heap.size w w' := by
  by_cases hlen : 1048576 < len0
  · clear w0
    go_enter Try.func6, Try.ntmps6
    go_wp2
    go_ret
    exact ⟨rfl, Below.refl _ _⟩
  · have hlen' : decide (1048576 < len0) = false := by simpa using hlen
    go_enter Try.func6, Try.ntmps6
    go_wp2_with fail
    refine (drawReadTerm_any _ _ _ _ _ w0).mono ?_
    rintro e w1 ⟨S, rfl, hS, B1⟩
    clear hlen hlen' w0
    have HB1 := Lib.hid B1
    have HS : Hid (S.size ≤ 9223372036854775807) := Lib.hid (by omega)
    clear B1
    obtain ⟨b, hb⟩ : ∃ b, rdB S = b := ⟨_, rfl⟩
    obtain ⟨t, ht⟩ : ∃ t, rdL S = t := ⟨_, rfl⟩
    obtain ⟨l, hl⟩ : ∃ l, bs S = l := ⟨_, rfl⟩
    have hSl : S = ⟨l.toArray⟩ := by rw [← hl]; exact bs_of S
    have hll : l.length ≤ 1000 := by rw [← hl, bs_len]; exact hS
    subst hSl
    clear hS hl
    go_wp2_with fail
    refine (implReadTerm_any _ HS.out w1).mono ?_
    rintro e w2 ⟨vt, rfl, o2, b2⟩
    rw [ht] at o2
    rw [hb]
    have HK2 : Hid (MOwn w2 w1.heap.size vt t ∧ Below w.heap.size w w2) := Lib.hid ⟨o2, below_step HB1.out b2 HB1.out.size⟩
    clear o2 b2
    obtain ⟨A, c, rfl, -, -⟩ := (HK2.out.1.rd qC_len).form
    go_wp2_with fail
    refine (specReadTerm_any _ HS.out w2).mono ?_
    rintro e w3 ⟨vx, rfl, o3, b3⟩
    rw [ht] at o3
    rw [hb]
    have HK3 : Hid (MOwn w3 w1.heap.size (.slice A t.length c) t ∧ MOwn w3 w2.heap.size vx t ∧ Below w.heap.size w w3) := Lib.hid ⟨HK2.out.1.keep (SameAt.of_below b3), o3, below_step HK2.out.2 b3 HK2.out.2.size⟩
    clear o3 b3
    go_wp2_with fail
    refine (sameMarks_any w3 _ vx t t (HK3.out.1.rd qC_len) (HK3.out.2.1.rd qC_len)).mono ?_
    rintro e w4 ⟨rfl, b4⟩
    rw [show decide (t = t) = true from by simp]
    have HK4 : Hid (MOwn w4 w1.heap.size (.slice A t.length c) t ∧ Below w.heap.size w w4) := Lib.hid ⟨HK3.out.1.keep (SameAt.of_below b4), below_step HK3.out.2.2 b4 HK3.out.2.2.size⟩
    clear b4
    cases b
    · have h0 : t = [] := by rw [← ht]; exact rd_nil hb
      subst h0
      clear ht hb
      go_wp2_with fail
      refine (alive_any _).mono ?_
      rintro e w' ⟨rfl, rfl⟩
      go_wp2_with fail
      go_ret
      exact ⟨rfl, HK4.out.2⟩
    · obtain ⟨x1, x2, x3⟩ := rd_back hb
      rw [ht] at x1 x2
      rw [bs_mk] at x2 x3
      have X2 := Lib.hid x2
      have X3 := Lib.hid x3
      have h1 : ∀ w : World, (Op.stringOp .add ⟨[40].toArray⟩ ⟨l.toArray⟩).run Try.prog w = .ok (.string ⟨(40 :: l).toArray⟩) w := fun w => add_txt [40] _ (by simp; omega) w
      have h2 : ∀ w : World, (Op.stringOp .add ⟨(40 :: l).toArray⟩ ⟨[41].toArray⟩).run Try.prog w = .ok (.string ⟨(40 :: (l ++ [41])).toArray⟩) w := fun w => add_txt (40 :: l) [41] (by simp; omega) w
      have HS2 : Hid ((⟨(40 :: (l ++ [41])).toArray⟩ : ByteArray).size ≤ 9223372036854775807) := Lib.hid (by rw [size_mk]; simp; omega)
      clear x2 x3 ht hb hll
      go_wp2_with fail
      refine (implReadTerm_any _ HS2.out w4).mono ?_
      rintro e w5 ⟨vz, rfl, -, b5⟩
      rw [X3.out]
      have HK5 : Hid (MOwn w5 w1.heap.size (.slice A t.length c) t ∧ Below w.heap.size w w5) := Lib.hid ⟨HK4.out.1.keep (SameAt.of_below b5), below_step HK4.out.2 b5 HK4.out.2.size⟩
      clear b5 h1 h2
      go_wp2_with fail
      refine (implTermText_any w5 _ t (HK5.out.1.rd qC_len)).mono ?_
      rintro e w6 ⟨rfl, b6⟩
      rw [X2.out]
      have HK6 : Hid (MOwn w6 w1.heap.size (.slice A t.length c) t ∧ Below w.heap.size w w6) := Lib.hid ⟨HK5.out.1.keep (SameAt.of_below b6), below_step HK5.out.2 b6 HK5.out.2.size⟩
      clear b6
      go_wp2_with fail
      refine (implTermOk_any w6 _ t (HK6.out.1.rd qC_len)).mono ?_
      rintro e w7 ⟨rfl, b7⟩
      rw [x1]
      have HB7 := Lib.hid (below_step HK6.out.2 b7 HK6.out.2.size)
      clear b7
      go_wp2_with fail
      go_ret
      exact ⟨rfl, HB7.out⟩

end Go.Proofs.Ytkochmmlcenncaa
