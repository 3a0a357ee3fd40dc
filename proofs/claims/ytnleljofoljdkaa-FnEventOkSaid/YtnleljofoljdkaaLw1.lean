/- The walks of the laws of chapter 1 but PartsOf. Conditions: a row of bytes that came in. -/
import Derived.Test.YtnleljofoljdkaaRd3
import Derived.ProofKit
namespace Go.Proofs.Ytnleljofoljdkaa
open Go.ChangeShapes Go.WideShapes Go.ChangeAt Go.RowKit
set_option linter.unusedVariables false

set_option maxHeartbeats 400000 in
theorem drawImpliesOk_any (w : World) (a : Option Addr) (len cap : Nat) (zs : List Int) (h : IsRowC .u8 w a len cap zs) :
    Calls Try.prog 19 #[.slice a len cap] w (Three w.heap.size w) := by
  go_enter Try.func19, Try.ntmps19
  go_wp2_with fail
  refine (open_any w a len cap zs h).mono ?_
  rintro e w1 ⟨rfl, ho⟩
  go_wp2_with fail
  refine (l20Two_any _ w.heap.size 0 (by decide) ho.rd).mono ?_
  rintro e w2 ⟨x, y, z, rfl, k1⟩
  go_wp2_with fail
  go_ret3
  exact ⟨_, _, _, rfl, ho.picked k1⟩

set_option maxHeartbeats 400000 in
theorem drawApartOk_any (w : World) (a : Option Addr) (len cap : Nat) (zs : List Int) (h : IsRowC .u8 w a len cap zs) :
    Calls Try.prog 22 #[.slice a len cap] w (Three w.heap.size w) := by
  go_enter Try.func22, Try.ntmps22
  go_wp2_with fail
  refine (open_any w a len cap zs h).mono ?_
  rintro e w1 ⟨rfl, ho⟩
  go_wp2_with fail
  refine (l20Two_any _ w.heap.size 0 (by decide) ho.rd).mono ?_
  rintro e w2 ⟨x, y, z, rfl, k1⟩
  go_wp2_with fail
  go_ret3
  exact ⟨_, _, _, rfl, ho.picked k1⟩

theorem evB_no {w e : Int} (h : ¬ (1 ≤ w ∧ w ≤ 4)) : evB w e = false := by
  rw [← Bool.not_eq_true, evB_iff]; omega
theorem evB_refl {w e : Int} {b : Bool} (h : evB w e = b) (h1 : 1 ≤ w) (h2 : w ≤ 4) : evB w (allI w - e) = b := by
  rw [← h]
  exact bool_eq (by rw [evB_iff, evB_iff]; omega)
theorem evB_0 {w : Int} (h1 : 1 ≤ w) (h2 : w ≤ 4) : evB w 0 = true := by
  have := allI_le h1 h2
  rw [evB_iff]; omega
theorem evB_all {w : Int} (h1 : 1 ≤ w) (h2 : w ≤ 4) : evB w (allI w) = true := by
  have := allI_le h1 h2
  rw [evB_iff]; omega

set_option maxHeartbeats 1000000 in
theorem FnEventOk_walk (a0 : Option Addr) (len0 cap0 : Nat) (z0 : List Int) (w : World) (w0 : IsRowC .u8 w a0 len0 cap0 z0) :
    Calls Try.prog 3 #[.slice a0 len0 cap0] w fun e w' => e = .returned (.bool true) ∧ Below w.heap.size w w' := by
  by_cases hlen : 1048576 < len0
  · clear w0
    go_enter Try.func3, Try.ntmps3
    go_wp2
    go_ret
    exact ⟨rfl, Below.refl _ _⟩
  · have hlen' : decide (1048576 < len0) = false := by simpa using hlen
    go_enter Try.func3, Try.ntmps3
    go_wp2_with fail
    refine (drawEventOk_any _ _ _ _ _ w0).mono ?_
    rintro e w1 ⟨x, y, rfl, x1, x2, y1, y2, hb⟩
    clear hlen hlen' w0
    by_cases hx : 1 ≤ x ∧ x ≤ 4
    · obtain ⟨hx1, hx2⟩ := hx
      clear x1 x2
      obtain ⟨b, hev⟩ : ∃ b, evB x y = b := ⟨_, rfl⟩
      have h1 := evB_refl hev hx1 hx2
      have h2 := evB_0 hx1 hx2
      have h3 := evB_all hx1 hx2
      obtain rfl | rfl | rfl | rfl := wcases hx1 hx2
      all_goals
        simp only [show allI 1 = 1 from rfl, show allI 2 = 3 from rfl, show allI 3 = 7 from rfl, show allI 4 = 15 from rfl] at h1 h3
        go_wp2_with (first
          | (go_at_call 12; refine (implEventOk_any _ _ _).mono ?_; rintro e w' ⟨rfl, rfl⟩)
          | (go_at_call 13; refine (specEventOk_any _ _ _).mono ?_; rintro e w' ⟨rfl, rfl⟩))
        go_ret
        exact ⟨ret_bool (by simp), hb⟩
    · have h1 : evB x y = false := evB_no hx
      by_cases hx1 : x < 1
      · go_wp2_with (first
          | (go_at_call 12; refine (implEventOk_any _ _ _).mono ?_; rintro e w' ⟨rfl, rfl⟩)
          | (go_at_call 13; refine (specEventOk_any _ _ _).mono ?_; rintro e w' ⟨rfl, rfl⟩)
          | (go_at_call 14; refine (alive_any _).mono ?_; rintro e w' ⟨rfl, rfl⟩))
        go_ret
        exact ⟨rfl, hb⟩
      · have hx2 : 4 < x := by omega
        have hx3 : decide (x < 1) = false := by simpa using hx1
        go_wp2_with (first
          | (go_at_call 12; refine (implEventOk_any _ _ _).mono ?_; rintro e w' ⟨rfl, rfl⟩)
          | (go_at_call 13; refine (specEventOk_any _ _ _).mono ?_; rintro e w' ⟨rfl, rfl⟩)
          | (go_at_call 14; refine (alive_any _).mono ?_; rintro e w' ⟨rfl, rfl⟩))
        go_ret
        exact ⟨rfl, hb⟩

theorem tab1 : ∀ w : Fin 5, ∀ a : Fin 16, evB ((w : Nat) : Int) ((a : Nat) : Int) = true → 0 ≤ notI ((w : Nat) : Int) ((a : Nat) : Int) ∧ notI ((w : Nat) : Int) (notI ((w : Nat) : Int) ((a : Nat) : Int)) = ((a : Nat) : Int) ∧
    apB ((w : Nat) : Int) (notI ((w : Nat) : Int) ((a : Nat) : Int)) ((a : Nat) : Int) = true := by decide +kernel
theorem tab2 : ∀ w : Fin 5, ∀ a b : Fin 16, evB ((w : Nat) : Int) ((a : Nat) : Int) = true → evB ((w : Nat) : Int) ((b : Nat) : Int) = true →
    apB ((w : Nat) : Int) ((a : Nat) : Int) (notI ((w : Nat) : Int) ((b : Nat) : Int)) = impB ((w : Nat) : Int) ((a : Nat) : Int) ((b : Nat) : Int) ∧
    impB ((w : Nat) : Int) (notI ((w : Nat) : Int) ((b : Nat) : Int)) (notI ((w : Nat) : Int) ((a : Nat) : Int)) = impB ((w : Nat) : Int) ((a : Nat) : Int) ((b : Nat) : Int) ∧
    apB ((w : Nat) : Int) ((b : Nat) : Int) ((a : Nat) : Int) = apB ((w : Nat) : Int) ((a : Nat) : Int) ((b : Nat) : Int) ∧
    apB ((w : Nat) : Int) ((a : Nat) : Int) ((a : Nat) : Int) = (((a : Nat) : Int) == 0) := by decide +kernel
theorem fin5 {w e : Int} (h : evB w e = true) : ∃ k : Fin 5, w = ((k : Nat) : Int) := by
  have h' := (evB_iff w e).1 h
  exact ⟨⟨w.toNat, by omega⟩, by simp; omega⟩
theorem not_facts {w e : Int} (h : evB w e = true) : 0 ≤ notI w e ∧ notI w (notI w e) = e ∧ apB w (notI w e) e = true := by
  obtain ⟨k, rfl⟩ := fin5 h
  obtain ⟨j, rfl⟩ := fin16 (evB_15 h).1 (evB_15 h).2
  exact tab1 k j h
theorem two_facts {w a b : Int} (h : evB w a = true) (h2 : evB w b = true) : apB w a (notI w b) = impB w a b ∧ impB w (notI w b) (notI w a) = impB w a b ∧ apB w b a = apB w a b ∧ apB w a a = (a == 0) := by
  obtain ⟨k, rfl⟩ := fin5 h
  obtain ⟨j, rfl⟩ := fin16 (evB_15 h).1 (evB_15 h).2
  obtain ⟨i, rfl⟩ := fin16 (evB_15 h2).1 (evB_15 h2).2
  exact tab2 k j i h h2

set_option maxHeartbeats 1000000 in
theorem FnNotEvent_walk (a0 : Option Addr) (len0 cap0 : Nat) (z0 : List Int) (w : World) (w0 : IsRowC .u8 w a0 len0 cap0 z0) :
    Calls Try.prog 4 #[.slice a0 len0 cap0] w fun e w' => e = .returned (.bool true) ∧ Below w.heap.size w w' := by
  by_cases hlen : 1048576 < len0
  · clear w0
    go_enter Try.func4, Try.ntmps4
    go_wp2
    go_ret
    exact ⟨rfl, Below.refl _ _⟩
  · have hlen' : decide (1048576 < len0) = false := by simpa using hlen
    go_enter Try.func4, Try.ntmps4
    go_wp2_with fail
    refine (drawNotEvent_any _ _ _ _ _ w0).mono ?_
    rintro e w1 ⟨x, y, rfl, -, -, -, -, hb⟩
    clear hlen hlen' w0
    rcases Bool.eq_false_or_eq_true (evB x y) with h | h
    · obtain ⟨h1, h2, h3⟩ := not_facts h
      obtain ⟨n, hn⟩ : ∃ n, notI x y = n := ⟨_, rfl⟩
      rw [hn] at h1 h2 h3
      go_wp2_with (first
        | (go_at_call 16; refine (implNotEvent_any _ _ _).mono ?_; rintro e w' ⟨rfl, rfl⟩)
        | (go_at_call 17; refine (specNotEvent_any _ _ _).mono ?_; rintro e w' ⟨rfl, rfl⟩)
        | (go_at_call 18; refine (implApartOk_any _ _ _ _).mono ?_; rintro e w' ⟨rfl, rfl⟩))
      go_ret
      exact ⟨rfl, hb⟩
    · have hn : notI x y = -1 := by rw [notI, h]; rfl
      go_wp2_with (first
        | (go_at_call 16; refine (implNotEvent_any _ _ _).mono ?_; rintro e w' ⟨rfl, rfl⟩)
        | (go_at_call 17; refine (specNotEvent_any _ _ _).mono ?_; rintro e w' ⟨rfl, rfl⟩)
        | (go_at_call 12; refine (implEventOk_any _ _ _).mono ?_; rintro e w' ⟨rfl, rfl⟩)
        | (go_at_call 14; refine (alive_any _).mono ?_; rintro e w' ⟨rfl, rfl⟩))
      go_ret
      exact ⟨rfl, hb⟩

set_option maxHeartbeats 1000000 in
theorem FnImpliesOk_walk (a0 : Option Addr) (len0 cap0 : Nat) (z0 : List Int) (w : World) (w0 : IsRowC .u8 w a0 len0 cap0 z0) :
    Calls Try.prog 5 #[.slice a0 len0 cap0] w fun e w' => e = .returned (.bool true) ∧ Below w.heap.size w w' := by
  by_cases hlen : 1048576 < len0
  · clear w0
    go_enter Try.func5, Try.ntmps5
    go_wp2
    go_ret
    exact ⟨rfl, Below.refl _ _⟩
  · have hlen' : decide (1048576 < len0) = false := by simpa using hlen
    go_enter Try.func5, Try.ntmps5
    go_wp2_with fail
    refine (drawImpliesOk_any _ _ _ _ _ w0).mono ?_
    rintro e w1 ⟨x, y, z, rfl, hb⟩
    clear hlen hlen' w0
    rcases Bool.eq_false_or_eq_true (evB x y) with h | h
    · rcases Bool.eq_false_or_eq_true (evB x z) with g | g
      · obtain ⟨h1, h2, -, -⟩ := two_facts h g
        obtain ⟨n, hn⟩ : ∃ n, notI x y = n := ⟨_, rfl⟩
        obtain ⟨m, hm⟩ : ∃ m, notI x z = m := ⟨_, rfl⟩
        obtain ⟨t, ht⟩ : ∃ t, impB x y z = t := ⟨_, rfl⟩
        rw [hm, ht] at h1
        rw [hn, hm, ht] at h2
        go_wp2_with (first
          | (go_at_call 20; refine (implImpliesOk_any _ _ _ _).mono ?_; rintro e w' ⟨rfl, rfl⟩)
          | (go_at_call 21; refine (specImpliesOk_any _ _ _ _).mono ?_; rintro e w' ⟨rfl, rfl⟩)
          | (go_at_call 13; refine (specEventOk_any _ _ _).mono ?_; rintro e w' ⟨rfl, rfl⟩)
          | (go_at_call 16; refine (implNotEvent_any _ _ _).mono ?_; rintro e w' ⟨rfl, rfl⟩)
          | (go_at_call 18; refine (implApartOk_any _ _ _ _).mono ?_; rintro e w' ⟨rfl, rfl⟩))
        go_ret
        exact ⟨ret_bool (by simp), hb⟩
      · have ht : impB x y z = false := impB_tf h g
        go_wp2_with (first
          | (go_at_call 20; refine (implImpliesOk_any _ _ _ _).mono ?_; rintro e w' ⟨rfl, rfl⟩)
          | (go_at_call 21; refine (specImpliesOk_any _ _ _ _).mono ?_; rintro e w' ⟨rfl, rfl⟩)
          | (go_at_call 13; refine (specEventOk_any _ _ _).mono ?_; rintro e w' ⟨rfl, rfl⟩)
          | (go_at_call 14; refine (alive_any _).mono ?_; rintro e w' ⟨rfl, rfl⟩))
        go_ret
        exact ⟨rfl, hb⟩
    · have ht : impB x y z = false := impB_ff h
      go_wp2_with (first
        | (go_at_call 20; refine (implImpliesOk_any _ _ _ _).mono ?_; rintro e w' ⟨rfl, rfl⟩)
        | (go_at_call 21; refine (specImpliesOk_any _ _ _ _).mono ?_; rintro e w' ⟨rfl, rfl⟩)
        | (go_at_call 13; refine (specEventOk_any _ _ _).mono ?_; rintro e w' ⟨rfl, rfl⟩)
        | (go_at_call 14; refine (alive_any _).mono ?_; rintro e w' ⟨rfl, rfl⟩))
      go_ret
      exact ⟨rfl, hb⟩

set_option maxHeartbeats 1000000 in
theorem FnApartOk_walk (a0 : Option Addr) (len0 cap0 : Nat) (z0 : List Int) (w : World) (w0 : IsRowC .u8 w a0 len0 cap0 z0) :
    Calls Try.prog 6 #[.slice a0 len0 cap0] w fun e w' => e = .returned (.bool true) ∧ Below w.heap.size w w' := by
  by_cases hlen : 1048576 < len0
  · clear w0
    go_enter Try.func6, Try.ntmps6
    go_wp2
    go_ret
    exact ⟨rfl, Below.refl _ _⟩
  · have hlen' : decide (1048576 < len0) = false := by simpa using hlen
    go_enter Try.func6, Try.ntmps6
    go_wp2_with fail
    refine (drawApartOk_any _ _ _ _ _ w0).mono ?_
    rintro e w1 ⟨x, y, z, rfl, hb⟩
    clear hlen hlen' w0
    rcases Bool.eq_false_or_eq_true (evB x y) with h | h
    · rcases Bool.eq_false_or_eq_true (evB x z) with g | g
      · obtain ⟨-, -, h3, h4⟩ := two_facts h g
        obtain ⟨t, ht⟩ : ∃ t, apB x y z = t := ⟨_, rfl⟩
        obtain ⟨s, hs⟩ : ∃ s, (y == 0) = s := ⟨_, rfl⟩
        rw [ht] at h3
        rw [hs] at h4
        go_wp2_with (first
          | (go_at_call 18; refine (implApartOk_any _ _ _ _).mono ?_; rintro e w' ⟨rfl, rfl⟩)
          | (go_at_call 23; refine (specApartOk_any _ _ _ _).mono ?_; rintro e w' ⟨rfl, rfl⟩)
          | (go_at_call 13; refine (specEventOk_any _ _ _).mono ?_; rintro e w' ⟨rfl, rfl⟩)
          | (go_at_call 14; refine (alive_any _).mono ?_; rintro e w' ⟨rfl, rfl⟩))
        go_ret
        exact ⟨ret_bool (by simp), hb⟩
      · have ht : apB x y z = false := apB_tf h g
        go_wp2_with (first
          | (go_at_call 18; refine (implApartOk_any _ _ _ _).mono ?_; rintro e w' ⟨rfl, rfl⟩)
          | (go_at_call 23; refine (specApartOk_any _ _ _ _).mono ?_; rintro e w' ⟨rfl, rfl⟩)
          | (go_at_call 13; refine (specEventOk_any _ _ _).mono ?_; rintro e w' ⟨rfl, rfl⟩)
          | (go_at_call 14; refine (alive_any _).mono ?_; rintro e w' ⟨rfl, rfl⟩))
        go_ret
        exact ⟨rfl, hb⟩
    · have ht : apB x y z = false := apB_ff h
      go_wp2_with (first
        | (go_at_call 18; refine (implApartOk_any _ _ _ _).mono ?_; rintro e w' ⟨rfl, rfl⟩)
        | (go_at_call 23; refine (specApartOk_any _ _ _ _).mono ?_; rintro e w' ⟨rfl, rfl⟩)
        | (go_at_call 13; refine (specEventOk_any _ _ _).mono ?_; rintro e w' ⟨rfl, rfl⟩)
        | (go_at_call 14; refine (alive_any _).mono ?_; rintro e w' ⟨rfl, rfl⟩))
      go_ret
      exact ⟨rfl, hb⟩
end Go.Proofs.Ytnleljofoljdkaa
