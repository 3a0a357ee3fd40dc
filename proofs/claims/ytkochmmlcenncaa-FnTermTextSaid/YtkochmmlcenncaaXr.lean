/- The draw of SumTerm, and the walk of its law. Conditions: stated. -/
import Derived.Test.YtkochmmlcenncaaXp
namespace Go.Proofs.Ytkochmmlcenncaa
open Go.RowKit
set_option linter.unusedVariables false

set_option maxHeartbeats 1000000 in
theorem drawSumTerm_any (w : World) (a : Option Addr) (len cap : Nat) (zs : List Int) (h : IsRowC .u8 w a len cap zs) :
    Calls Try.prog 28 #[.slice a len cap] w fun e w' => ∃ x : Int, e = .returned (.int .i64 x) ∧ Below w.heap.size w w' := by
  go_enter Try.func28, Try.ntmps28
  go_wp2_with fail
  refine (open_any w a len cap zs h).mono ?_
  rintro e w1 ⟨rfl, ho⟩
  go_wp2_with fail
  refine (pick_any _ w.heap.size 0 _ (by decide) ho.rd).mono ?_
  rintro e w2 ⟨v1, rfl, ⟨p1, p2, -⟩, k1⟩
  have p2 := p2 (by decide)
  go_wp2_with fail
  refine (pick_any _ w.heap.size 1 _ (by decide) k1.rd).mono ?_
  rintro e w3 ⟨v2, rfl, ⟨p3, p4, -⟩, k2⟩
  have p4 := p4 (by decide)
  go_wp2_with fail
  refine (pick_any _ w.heap.size 2 _ (by decide) k2.rd).mono ?_
  rintro e w4 ⟨v3, rfl, ⟨p5, p6, -⟩, k3⟩
  have p6 := p6 (by decide)
  go_wp2_with fail
  go_ret
  exact ⟨_, rfl, ho.picked ((k1.trans k2).trans k3)⟩

theorem txtI_small (t : List Mk) : (txtI t).length ≤ 200 := by
  rcases Bool.eq_false_or_eq_true (tmB t) with h | h
  · obtain ⟨T, rfl, h40⟩ := tm_tree h
    rw [txtI_tree h40]
    have := txt_len T
    omega
  · rw [txtI_no h]; simp

theorem size_mk (l : List UInt8) : (⟨l.toArray⟩ : ByteArray).size = l.length := by simp [ByteArray.size]

set_option maxHeartbeats 1000000 in
theorem FnSumTerm_walk (a0 : Option Addr) (len0 cap0 : Nat) (z0 : List Int) (w : World) (w0 : IsRowC .u8 w a0 len0 cap0 z0) :
    Calls Try.prog 7 #[.slice a0 len0 cap0] w fun e w' => e = .returned (.bool true) ∧ Below w.heap.size w w' := by
  by_cases hlen : 1048576 < len0
  · clear w0
    go_enter Try.func7, Try.ntmps7
    go_wp2
    go_ret
    exact ⟨rfl, Below.refl _ _⟩
  · have hlen' : decide (1048576 < len0) = false := by simpa using hlen
    go_enter Try.func7, Try.ntmps7
    go_wp2_with fail
    refine (drawSumTerm_any _ _ _ _ _ w0).mono ?_
    rintro e w1 ⟨x, rfl, B1⟩
    clear hlen hlen' w0
    have HB1 := Lib.hid B1
    clear B1
    rcases Bool.eq_false_or_eq_true (evB 4 x) with h | h
    · obtain ⟨-, -, h0, h1⟩ := (evB_iff _ _).1 h
      have h15 : x ≤ 15 := by simpa [allI] using h1
      obtain ⟨E, rfl⟩ : ∃ E : Nat, x = E := ⟨x.toNat, by omega⟩
      obtain ⟨y1, y2, y3⟩ := sum_yes (E := E) (by omega)
      obtain ⟨t, ht⟩ : ∃ t, sumTR (E : Int) = t := ⟨_, rfl⟩
      rw [ht] at y1 y2 y3
      obtain ⟨x1, x2, x3⟩ := txt_yes y2
      have hsz : (⟨(txtI t).toArray⟩ : ByteArray).size ≤ 9223372036854775807 := by rw [size_mk]; have := txtI_small t; omega
      have hl : ¬ t.length = 0 := fun e => y1 (List.eq_nil_of_length_eq_zero e)
      have hlz : ((t.length : Int) == 0) = false := by simp; exact y1
      have HSZ := Lib.hid hsz
      clear h0 h1 x1 y1 hl hsz
      go_wp2_with fail
      refine (implSumTerm_any w1 E).mono ?_
      rintro e w2 ⟨vt, rfl, o2, b2⟩
      rw [ht] at o2
      have HK2 : Hid (MOwn w2 w1.heap.size vt t ∧ Below w.heap.size w w2) := Lib.hid ⟨o2, below_step HB1.out b2 HB1.out.size⟩
      clear o2 b2
      obtain ⟨A, c, rfl, -, -⟩ := (HK2.out.1.rd qC_len).form
      go_wp2_with fail
      refine (specSumTerm_any w2 E).mono ?_
      rintro e w3 ⟨vs, rfl, o3, b3⟩
      rw [ht] at o3
      have HK3 : Hid (MOwn w3 w1.heap.size (.slice A t.length c) t ∧ MOwn w3 w2.heap.size vs t ∧ Below w.heap.size w w3) := Lib.hid ⟨HK2.out.1.keep (SameAt.of_below b3), o3, below_step HK2.out.2 b3 HK2.out.2.size⟩
      clear o3 b3
      go_wp2_with fail
      refine (sameMarks_any w3 _ vs t t (HK3.out.1.rd qC_len) (HK3.out.2.1.rd qC_len)).mono ?_
      rintro e w4 ⟨rfl, b4⟩
      rw [show decide (t = t) = true from by simp]
      have HK4 : Hid (MOwn w4 w1.heap.size (.slice A t.length c) t ∧ Below w.heap.size w w4) := Lib.hid ⟨HK3.out.1.keep (SameAt.of_below b4), below_step HK3.out.2.2 b4 HK3.out.2.2.size⟩
      clear b4
      go_wp2_with fail
      refine (implTermText_any w4 _ t (HK4.out.1.rd qC_len)).mono ?_
      rintro e w5 ⟨rfl, b5⟩
      have HK5 : Hid (MOwn w5 w1.heap.size (.slice A t.length c) t ∧ Below w.heap.size w w5) := Lib.hid ⟨HK4.out.1.keep (SameAt.of_below b5), below_step HK4.out.2 b5 HK4.out.2.size⟩
      clear b5
      go_wp2_with fail
      refine (implReadTerm_any _ HSZ.out w5).mono ?_
      rintro e w6 ⟨vx, rfl, o6, b6⟩
      rw [x3] at o6
      rw [x2]
      have HK6 : Hid (MOwn w6 w1.heap.size (.slice A t.length c) t ∧ MOwn w6 w5.heap.size vx t ∧ Below w.heap.size w w6) := Lib.hid ⟨HK5.out.1.keep (SameAt.of_below b6), o6, below_step HK5.out.2 b6 HK5.out.2.size⟩
      clear o6 b6
      go_wp2_with fail
      refine (implTermOk_any w6 _ t (HK6.out.1.rd qC_len)).mono ?_
      rintro e w7 ⟨rfl, b7⟩
      rw [y2]
      have HK7 : Hid (MOwn w7 w1.heap.size (.slice A t.length c) t ∧ MOwn w7 w5.heap.size vx t ∧ Below w.heap.size w w7) := Lib.hid ⟨HK6.out.1.keep (SameAt.of_below b7), HK6.out.2.1.keep (SameAt.of_below b7), below_step HK6.out.2.2 b7 HK6.out.2.2.size⟩
      clear b7
      go_wp2_with fail
      refine (implEventOfTerm_any w7 _ t (HK7.out.1.rd qC_len)).mono ?_
      rintro e w8 ⟨rfl, b8⟩
      rw [y3]
      have HK8 : Hid (MOwn w8 w1.heap.size (.slice A t.length c) t ∧ MOwn w8 w5.heap.size vx t ∧ Below w.heap.size w w8) := Lib.hid ⟨HK7.out.1.keep (SameAt.of_below b8), HK7.out.2.1.keep (SameAt.of_below b8), below_step HK7.out.2.2 b8 HK7.out.2.2.size⟩
      clear b8
      go_wp2_with fail
      refine (sameMarks_any w8 vx _ t t (HK8.out.2.1.rd qC_len) (HK8.out.1.rd qC_len)).mono ?_
      rintro e w9 ⟨rfl, b9⟩
      rw [show decide (t = t) = true from by simp]
      have HB9 := Lib.hid (below_step HK8.out.2.2 b9 HK8.out.2.2.size)
      clear b9
      go_wp2_with fail
      go_ret
      exact ⟨rfl, HB9.out⟩
    · have hs := sum_none h
      go_wp2_with fail
      refine (implSumTerm_any w1 x).mono ?_
      rintro e w2 ⟨vt, rfl, o2, b2⟩
      rw [hs] at o2
      have HK2 : Hid (MOwn w2 w1.heap.size vt [] ∧ Below w.heap.size w w2) := Lib.hid ⟨o2, below_step HB1.out b2 HB1.out.size⟩
      clear o2 b2
      obtain ⟨A, c, rfl, -, -⟩ := (HK2.out.1.rd qC_len).form
      go_wp2_with fail
      refine (specSumTerm_any w2 x).mono ?_
      rintro e w3 ⟨vs, rfl, o3, b3⟩
      rw [hs] at o3
      have HK3 : Hid (MOwn w3 w1.heap.size (.slice A 0 c) [] ∧ MOwn w3 w2.heap.size vs [] ∧ Below w.heap.size w w3) := Lib.hid ⟨HK2.out.1.keep (SameAt.of_below b3), o3, below_step HK2.out.2 b3 HK2.out.2.size⟩
      clear o3 b3 hs
      go_wp2_with fail
      refine (sameMarks_any w3 _ vs [] [] (HK3.out.1.rd qC_len) (HK3.out.2.1.rd qC_len)).mono ?_
      rintro e w4 ⟨rfl, b4⟩
      rw [show decide (([] : List Qt) = []) = true from by simp]
      have HB4 := Lib.hid (below_step HK3.out.2.2 b4 HK3.out.2.2.size)
      clear b4
      go_wp2_with fail
      refine (implEventOk_any _ _ _).mono ?_
      rintro e w' ⟨rfl, rfl⟩
      rw [h]
      go_wp2_with fail
      refine (alive_any _).mono ?_
      rintro e w' ⟨rfl, rfl⟩
      go_wp2_with fail
      go_ret
      exact ⟨rfl, HB4.out⟩

end Go.Proofs.Ytkochmmlcenncaa
