/- Contracts of the functions on events. No condition. -/
import Derived.Test.YtpldhdidobggdaaRows
import Derived.WalkKit
import Derived.WalkSpells
import Derived.WalkLawsBesides
namespace Go.Proofs.Ytpldhdidobggdaa
open Go.RowKit

def wokB (w : Int) : Bool := decide (1 ≤ w) && decide (w ≤ 4)

def allI (w : Int) : Int := 2 ^ w.toNat - 1

def evB (w e : Int) : Bool := decide (1 ≤ w) && decide (w ≤ 4) && decide (0 ≤ e) && decide (e ≤ allI w)

theorem wokB_iff (w : Int) : wokB w = true ↔ 1 ≤ w ∧ w ≤ 4 := by simp [wokB]

theorem evB_iff (w e : Int) : evB w e = true ↔ 1 ≤ w ∧ w ≤ 4 ∧ 0 ≤ e ∧ e ≤ allI w := by simp [evB, and_assoc]

theorem wcases {w : Int} (h1 : 1 ≤ w) (h2 : w ≤ 4) : w = 1 ∨ w = 2 ∨ w = 3 ∨ w = 4 := by omega

set_option maxHeartbeats 400000 in
theorem worldsOk_any (w : Int) (W : World) :
    Calls Try.prog 52 #[.int .i64 w] W fun e W' => e = .returned (.bool (wokB w)) ∧ W = W' := by
  by_cases h1 : 1 ≤ w
  · by_cases h2 : w ≤ 4
    · go_enter Try.func52, Try.ntmps52
      go_wp2
      go_ret
      exact ⟨by simp [wokB, h1, h2], rfl⟩
    · have h3 : decide (w ≤ 4) = false := by simpa using h2
      go_enter Try.func52, Try.ntmps52
      go_wp2
      go_ret
      exact ⟨by rw [wokB, h3]; simp, rfl⟩
  · have h3 : decide (1 ≤ w) = false := by simpa using h1
    go_enter Try.func52, Try.ntmps52
    go_wp2
    go_ret
    exact ⟨by rw [wokB, h3]; simp, rfl⟩

set_option maxHeartbeats 400000 in
theorem allWorlds_any (w : Int) (h1 : 1 ≤ w) (h2 : w ≤ 4) (W : World) :
    Calls Try.prog 68 #[.int .i64 w] W fun e W' => e = .returned (.int .i64 (allI w)) ∧ W = W' := by
  obtain rfl | rfl | rfl | rfl := wcases h1 h2
  all_goals
    go_enter Try.func68, Try.ntmps68
    go_wp2
    go_ret
    exact ⟨rfl, rfl⟩

set_option maxHeartbeats 400000 in
theorem implEventOk_any (w e : Int) (W : World) :
    Calls Try.prog 47 #[.int .i64 w, .int .i64 e] W fun r W' => r = .returned (.bool (evB w e)) ∧ W = W' := by
  by_cases hw : wokB w = true
  · have hw' := (wokB_iff w).1 hw
    by_cases h1 : 0 ≤ e
    · go_enter Try.func47, Try.ntmps47
      go_wp2_with (first
        | (go_at_call 52; refine (worldsOk_any _ _).mono ?_; rintro e w' ⟨rfl, rfl⟩)
        | (go_at_call 68; refine (allWorlds_any _ hw'.1 hw'.2 _).mono ?_; rintro e w' ⟨rfl, rfl⟩))
      go_ret
      exact ⟨by simp [evB, h1, hw'], rfl⟩
    · have h3 : decide (0 ≤ e) = false := by simpa using h1
      go_enter Try.func47, Try.ntmps47
      go_wp2_with (go_at_call 52; refine (worldsOk_any _ _).mono ?_; rintro e w' ⟨rfl, rfl⟩)
      go_ret
      exact ⟨by rw [evB, h3]; simp, rfl⟩
  · have h3 : wokB w = false := by simpa using hw
    go_enter Try.func47, Try.ntmps47
    go_wp2_with (go_at_call 52; refine (worldsOk_any _ _).mono ?_; rintro e w' ⟨rfl, rfl⟩)
    go_ret
    exact ⟨by rw [evB]; rw [wokB] at h3; rw [h3]; simp, rfl⟩

def inB (n lo hi : Int) : Bool := decide (lo ≤ n ∧ n ≤ hi)

theorem inB_iff (n lo hi : Int) : inB n lo hi = true ↔ lo ≤ n ∧ n ≤ hi := by simp [inB]

theorem ret_bool {a b : Bool} (h : a = b) : Ending.returned (.bool a) = .returned (.bool b) := by rw [h]

theorem ret_int {k : IntKind} {a b : Int} (h : a = b) : Ending.returned (.int k a) = .returned (.int k b) := by rw [h]

theorem bool_eq {a b : Bool} (h : a = true ↔ b = true) : a = b := by rw [Bool.eq_iff_iff]; exact h

set_option maxHeartbeats 400000 in
theorem l1In_any (n lo hi : Int) (W : World) :
    Calls Try.prog 58 #[.int .i64 n, .int .i64 lo, .int .i64 hi] W fun r W' => r = .returned (.bool (inB n lo hi)) ∧ W = W' := by
  by_cases h1 : lo ≤ n
  · by_cases h2 : n ≤ hi
    · go_enter Try.func58, Try.ntmps58
      go_wp2
      go_ret
      exact ⟨ret_bool (by simp [inB, h1, h2]), rfl⟩
    · have h3 : decide (n ≤ hi) = false := by simpa using h2
      go_enter Try.func58, Try.ntmps58
      go_wp2
      go_ret
      exact ⟨ret_bool (by simp only [inB]; symm; simpa [h1] using h2), rfl⟩
  · have h3 : decide (lo ≤ n) = false := by simpa using h1
    go_enter Try.func58, Try.ntmps58
    go_wp2
    go_ret
    exact ⟨ret_bool (by simp only [inB]; symm; simp; omega), rfl⟩

set_option maxHeartbeats 400000 in
theorem specEventOk_any (w e : Int) (W : World) :
    Calls Try.prog 57 #[.int .i64 w, .int .i64 e] W fun r W' => r = .returned (.bool (evB w e)) ∧ W = W' := by
  by_cases hw : 1 ≤ w ∧ w ≤ 4
  · obtain ⟨h1, h2⟩ := hw
    have hi : inB w 1 4 = true := (inB_iff _ _ _).2 ⟨h1, h2⟩
    obtain rfl | rfl | rfl | rfl := wcases h1 h2
    all_goals
      go_enter Try.func57, Try.ntmps57
      go_wp2_with (go_at_call 58; refine (l1In_any _ _ _ _).mono ?_; rintro e w' ⟨rfl, rfl⟩)
      go_ret
      exact ⟨ret_bool (bool_eq (by rw [inB_iff, evB_iff]; simp [allI])), rfl⟩
  · have h3 : inB w 1 4 = false := by simp only [inB]; simpa using hw
    go_enter Try.func57, Try.ntmps57
    go_wp2_with (go_at_call 58; refine (l1In_any _ _ _ _).mono ?_; rintro e w' ⟨rfl, rfl⟩)
    go_ret
    exact ⟨ret_bool (by symm; rw [← Bool.not_eq_true, evB_iff]; omega), rfl⟩

end Go.Proofs.Ytpldhdidobggdaa
