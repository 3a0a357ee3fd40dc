/- Contracts of the functions on events. No condition. Contracts of the functions on events. No condition. -/
import Derived.Test.YteljcicdibbhdaaRows
import Derived.WalkKit
import Derived.WalkSpells
import Derived.WalkLawsBesides
import Derived.Lib.Hide
namespace Go.Proofs.Yteljcicdibbhdaa
open Go.RowKit

def wokB (w : Int) : Bool := decide (1 ≤ w) && decide (w ≤ 4)

def allI (w : Int) : Int := 2 ^ w.toNat - 1

def evB (w e : Int) : Bool := decide (1 ≤ w) && decide (w ≤ 4) && decide (0 ≤ e) && decide (e ≤ allI w)

theorem wokB_iff (w : Int) : wokB w = true ↔ 1 ≤ w ∧ w ≤ 4 := by simp [wokB]

theorem evB_iff (w e : Int) : evB w e = true ↔ 1 ≤ w ∧ w ≤ 4 ∧ 0 ≤ e ∧ e ≤ allI w := by simp [evB, and_assoc]

theorem wcases {w : Int} (h1 : 1 ≤ w) (h2 : w ≤ 4) : w = 1 ∨ w = 2 ∨ w = 3 ∨ w = 4 := by omega

set_option maxHeartbeats 400000 in
theorem worldsOk_any (w : Int) (W : World) :
    Calls Try.prog 91 #[.int .i64 w] W fun e W' => e = .returned (.bool (wokB w)) ∧ W = W' := by
  by_cases h1 : 1 ≤ w
  · by_cases h2 : w ≤ 4
    · go_enter Try.func91, Try.ntmps91
      go_wp2
      go_ret
      exact ⟨by simp [wokB, h1, h2], rfl⟩
    · have h3 : decide (w ≤ 4) = false := by simpa using h2
      go_enter Try.func91, Try.ntmps91
      go_wp2
      go_ret
      exact ⟨by rw [wokB, h3]; simp, rfl⟩
  · have h3 : decide (1 ≤ w) = false := by simpa using h1
    go_enter Try.func91, Try.ntmps91
    go_wp2
    go_ret
    exact ⟨by rw [wokB, h3]; simp, rfl⟩

set_option maxHeartbeats 400000 in
theorem allWorlds_any (w : Int) (h1 : 1 ≤ w) (h2 : w ≤ 4) (W : World) :
    Calls Try.prog 66 #[.int .i64 w] W fun e W' => e = .returned (.int .i64 (allI w)) ∧ W = W' := by
  obtain rfl | rfl | rfl | rfl := wcases h1 h2
  all_goals
    go_enter Try.func66, Try.ntmps66
    go_wp2
    go_ret
    exact ⟨rfl, rfl⟩

set_option maxHeartbeats 400000 in
theorem implEventOk_any (w e : Int) (W : World) :
    Calls Try.prog 54 #[.int .i64 w, .int .i64 e] W fun r W' => r = .returned (.bool (evB w e)) ∧ W = W' := by
  by_cases hw : wokB w = true
  · have hw' := (wokB_iff w).1 hw
    by_cases h1 : 0 ≤ e
    · go_enter Try.func54, Try.ntmps54
      go_wp2_with (first
        | (go_at_call 91; refine (worldsOk_any _ _).mono ?_; rintro e w' ⟨rfl, rfl⟩)
        | (go_at_call 66; refine (allWorlds_any _ hw'.1 hw'.2 _).mono ?_; rintro e w' ⟨rfl, rfl⟩))
      go_ret
      exact ⟨by simp [evB, h1, hw'], rfl⟩
    · have h3 : decide (0 ≤ e) = false := by simpa using h1
      go_enter Try.func54, Try.ntmps54
      go_wp2_with (go_at_call 91; refine (worldsOk_any _ _).mono ?_; rintro e w' ⟨rfl, rfl⟩)
      go_ret
      exact ⟨by rw [evB, h3]; simp, rfl⟩
  · have h3 : wokB w = false := by simpa using hw
    go_enter Try.func54, Try.ntmps54
    go_wp2_with (go_at_call 91; refine (worldsOk_any _ _).mono ?_; rintro e w' ⟨rfl, rfl⟩)
    go_ret
    exact ⟨by rw [evB]; rw [wokB] at h3; rw [h3]; simp, rfl⟩

def inB (n lo hi : Int) : Bool := decide (lo ≤ n ∧ n ≤ hi)

theorem inB_iff (n lo hi : Int) : inB n lo hi = true ↔ lo ≤ n ∧ n ≤ hi := by simp [inB]

theorem ret_bool {a b : Bool} (h : a = b) : Ending.returned (.bool a) = .returned (.bool b) := by rw [h]

theorem ret_int {k : IntKind} {a b : Int} (h : a = b) : Ending.returned (.int k a) = .returned (.int k b) := by rw [h]

theorem bool_eq {a b : Bool} (h : a = true ↔ b = true) : a = b := by rw [Bool.eq_iff_iff]; exact h

set_option maxHeartbeats 400000 in
theorem l1In_any (n lo hi : Int) (W : World) :
    Calls Try.prog 63 #[.int .i64 n, .int .i64 lo, .int .i64 hi] W fun r W' => r = .returned (.bool (inB n lo hi)) ∧ W = W' := by
  by_cases h1 : lo ≤ n
  · by_cases h2 : n ≤ hi
    · go_enter Try.func63, Try.ntmps63
      go_wp2
      go_ret
      exact ⟨ret_bool (by simp [inB, h1, h2]), rfl⟩
    · have h3 : decide (n ≤ hi) = false := by simpa using h2
      go_enter Try.func63, Try.ntmps63
      go_wp2
      go_ret
      exact ⟨ret_bool (by simp only [inB]; symm; simpa [h1] using h2), rfl⟩
  · have h3 : decide (lo ≤ n) = false := by simpa using h1
    go_enter Try.func63, Try.ntmps63
    go_wp2
    go_ret
    exact ⟨ret_bool (by simp only [inB]; symm; simp; omega), rfl⟩

set_option maxHeartbeats 400000 in
theorem specEventOk_any (w e : Int) (W : World) :
    Calls Try.prog 18 #[.int .i64 w, .int .i64 e] W fun r W' => r = .returned (.bool (evB w e)) ∧ W = W' := by
  by_cases hw : 1 ≤ w ∧ w ≤ 4
  · obtain ⟨h1, h2⟩ := hw
    have hi : inB w 1 4 = true := (inB_iff _ _ _).2 ⟨h1, h2⟩
    obtain rfl | rfl | rfl | rfl := wcases h1 h2
    all_goals
      go_enter Try.func18, Try.ntmps18
      go_wp2_with (go_at_call 63; refine (l1In_any _ _ _ _).mono ?_; rintro e w' ⟨rfl, rfl⟩)
      go_ret
      exact ⟨ret_bool (bool_eq (by rw [inB_iff, evB_iff]; simp [allI])), rfl⟩
  · have h3 : inB w 1 4 = false := by simp only [inB]; simpa using hw
    go_enter Try.func18, Try.ntmps18
    go_wp2_with (go_at_call 63; refine (l1In_any _ _ _ _).mono ?_; rintro e w' ⟨rfl, rfl⟩)
    go_ret
    exact ⟨ret_bool (by symm; rw [← Bool.not_eq_true, evB_iff]; omega), rfl⟩

end Go.Proofs.Yteljcicdibbhdaa

namespace Go.Proofs.Yteljcicdibbhdaa
open Go.RowKit
set_option linter.unusedVariables false

theorem allI_le {w : Int} (h1 : 1 ≤ w) (h2 : w ≤ 4) : 1 ≤ allI w ∧ allI w ≤ 15 := by
  obtain rfl | rfl | rfl | rfl := wcases h1 h2 <;> decide

theorem allI_of {w : Int} (h1 : 1 ≤ w) (h2 : w ≤ 4) : (w = 1 ∧ allI w = 1) ∨ (w = 2 ∧ allI w = 3) ∨ (w = 3 ∧ allI w = 7) ∨ (w = 4 ∧ allI w = 15) := by
  obtain rfl | rfl | rfl | rfl := wcases h1 h2 <;> decide

theorem evB_15 {w e : Int} (h : evB w e = true) : 0 ≤ e ∧ e ≤ 15 := by
  have h' := (evB_iff w e).1 h
  have := allI_le h'.1 h'.2.1
  omega

theorem fin16 {e : Int} (h1 : 0 ≤ e) (h2 : e ≤ 15) : ∃ k : Fin 16, e = ((k : Nat) : Int) := ⟨⟨e.toNat, by omega⟩, by simp; omega⟩

theorem andNot_tab : ∀ e : Fin 16, ((e : Nat) ≤ 1 → bits BinOp.andNot IntKind.i64 1 ((e : Nat) : Int) = 1 - ((e : Nat) : Int)) ∧ ((e : Nat) ≤ 3 → bits BinOp.andNot IntKind.i64 3 ((e : Nat) : Int) = 3 - ((e : Nat) : Int)) ∧
    ((e : Nat) ≤ 7 → bits BinOp.andNot IntKind.i64 7 ((e : Nat) : Int) = 7 - ((e : Nat) : Int)) ∧ ((e : Nat) ≤ 15 → bits BinOp.andNot IntKind.i64 15 ((e : Nat) : Int) = 15 - ((e : Nat) : Int)) := by decide +kernel

theorem andNot_all {w e : Int} (h : evB w e = true) : bits BinOp.andNot IntKind.i64 (allI w) e = allI w - e := by
  have h' := (evB_iff w e).1 h
  obtain ⟨k, rfl⟩ := fin16 (evB_15 h).1 (evB_15 h).2
  obtain ⟨t1, t2, t3, t4⟩ := andNot_tab k
  rcases allI_of h'.1 h'.2.1 with ⟨-, h2⟩ | ⟨-, h2⟩ | ⟨-, h2⟩ | ⟨-, h2⟩ <;> rw [h2] at h' ⊢
  · exact t1 (by omega)
  · exact t2 (by omega)
  · exact t3 (by omega)
  · exact t4 (by omega)

theorem imp_tab : ∀ a b : Fin 16, (bits BinOp.andNot IntKind.i64 ((a : Nat) : Int) ((b : Nat) : Int) == 0) = (bits BinOp.and IntKind.i64 ((a : Nat) : Int) ((b : Nat) : Int) == ((a : Nat) : Int)) := by decide +kernel

theorem imp_eq {w a b : Int} (h : evB w a = true) (h2 : evB w b = true) : (bits BinOp.andNot IntKind.i64 a b == 0) = (bits BinOp.and IntKind.i64 a b == a) := by
  obtain ⟨k, rfl⟩ := fin16 (evB_15 h).1 (evB_15 h).2
  obtain ⟨j, rfl⟩ := fin16 (evB_15 h2).1 (evB_15 h2).2
  exact imp_tab k j

def notI (w e : Int) : Int := if evB w e = true then allI w - e else -1

def impB (w a b : Int) : Bool := evB w a && evB w b && (bits BinOp.andNot IntKind.i64 a b == 0)

def apB (w a b : Int) : Bool := evB w a && evB w b && (bits BinOp.and IntKind.i64 a b == 0)

set_option maxHeartbeats 400000 in
theorem implNotEvent_any (w e : Int) (W : World) :
    Calls Try.prog 23 #[.int .i64 w, .int .i64 e] W fun r W' => r = .returned (.int .i64 (notI w e)) ∧ W = W' := by
  by_cases h : evB w e = true
  · have h' := (evB_iff w e).1 h
    go_enter Try.func23, Try.ntmps23
    go_wp2_with (first
        | (go_at_call 54; refine (implEventOk_any _ _ _).mono ?_; rintro e w' ⟨rfl, rfl⟩)
        | (go_at_call 66; refine (allWorlds_any _ h'.1 h'.2.1 _).mono ?_; rintro e w' ⟨rfl, rfl⟩))
    go_ret
    exact ⟨ret_int (by rw [notI, if_pos h]; exact andNot_all h), rfl⟩
  · have h3 : evB w e = false := by simpa using h
    go_enter Try.func23, Try.ntmps23
    go_wp2_with (go_at_call 54; refine (implEventOk_any _ _ _).mono ?_; rintro e w' ⟨rfl, rfl⟩)
    go_ret
    exact ⟨ret_int (by rw [notI, if_neg h]), rfl⟩

theorem impB_ff {w a b : Int} (h : evB w a = false) : impB w a b = false := by rw [impB, h]; rfl

theorem impB_tf {w a b : Int} (h : evB w a = true) (h2 : evB w b = false) : impB w a b = false := by rw [impB, h, h2]; rfl

theorem impB_tt {w a b : Int} (h : evB w a = true) (h2 : evB w b = true) : impB w a b = (bits BinOp.andNot IntKind.i64 a b == 0) := by rw [impB, h, h2]; rfl

theorem apB_ff {w a b : Int} (h : evB w a = false) : apB w a b = false := by rw [apB, h]; rfl

theorem apB_tf {w a b : Int} (h : evB w a = true) (h2 : evB w b = false) : apB w a b = false := by rw [apB, h, h2]; rfl

theorem apB_tt {w a b : Int} (h : evB w a = true) (h2 : evB w b = true) : apB w a b = (bits BinOp.and IntKind.i64 a b == 0) := by rw [apB, h, h2]; rfl

set_option maxHeartbeats 400000 in
theorem implApartOk_any (w a b : Int) (W : World) :
    Calls Try.prog 106 #[.int .i64 w, .int .i64 a, .int .i64 b] W fun r W' => r = .returned (.bool (apB w a b)) ∧ W = W' := by
  rcases Bool.eq_false_or_eq_true (evB w a) with h | h
  · rcases Bool.eq_false_or_eq_true (evB w b) with h2 | h2
    all_goals
      go_enter Try.func106, Try.ntmps106
      go_wp2_with (go_at_call 54; refine (implEventOk_any _ _ _).mono ?_; rintro e w' ⟨rfl, rfl⟩)
      go_ret
      exact ⟨ret_bool (by first | exact (apB_tt h h2).symm | exact (apB_tf h h2).symm), rfl⟩
  · go_enter Try.func106, Try.ntmps106
    go_wp2_with (go_at_call 54; refine (implEventOk_any _ _ _).mono ?_; rintro e w' ⟨rfl, rfl⟩)
    go_ret
    exact ⟨ret_bool (apB_ff h).symm, rfl⟩

theorem ev23 : evB 2 3 = true := by decide

theorem ev24 : evB 2 4 = false := by decide

set_option maxHeartbeats 400000 in
theorem alive_any (W : World) :
    Calls Try.prog 20 #[] W fun r W' => r = .returned (.bool true) ∧ W = W' := by
  have h1 := ev23
  have h2 := ev24
  go_enter Try.func20, Try.ntmps20
  go_wp2_with (go_at_call 54; refine (implEventOk_any _ _ _).mono ?_; rintro e w' ⟨rfl, rfl⟩)
  go_ret
  exact ⟨rfl, rfl⟩

end Go.Proofs.Yteljcicdibbhdaa
