/- Contracts of the functions on events. No condition. -/
import Derived.Test.YtpldhdidobggdaaEv
namespace Go.Proofs.Ytpldhdidobggdaa
open Go.RowKit
set_option linter.unusedVariables false

theorem allI_le {w : Int} (h1 : 1 ≤ w) (h2 : w ≤ 4) : 1 ≤ allI w ∧ allI w ≤ 15 := by
  obtain rfl | rfl | rfl | rfl := wcases h1 h2 <;> decide

theorem allI_of {w : Int} (h1 : 1 ≤ w) (h2 : w ≤ 4) : (w = 1 ∧ allI w = 1) ∨ (w = 2 ∧ allI w = 3) ∨ (w = 3 ∧ allI w = 7) ∨ (w = 4 ∧ allI w = 15) := by
  obtain rfl | rfl | rfl | rfl := wcases h1 h2 <;> decide

theorem evB_15 {w e : Int} (h : evB w e = true) : 0 ≤ e ∧ e ≤ 15 := by
  have h' := (evB_iff w e).1 h
  have := allI_le h'.1 h'.2.1
  omega

theorem fin16 {e : Int} (h1 : 0 ≤ e) (h2 : e ≤ 15) : ∃ k : Fin 16, e = ((k : Nat) : Int) := ⟨⟨e.toNat, by omega⟩, by simp; omega⟩

theorem andNot_tab : ∀ e : Fin 16, ((e : Nat) ≤ 1 → bits BinOp.andNot IntKind.i64 1 ((e : Nat) : Int) = 1 - ((e : Nat) : Int)) ∧ ((e : Nat) ≤ 3 → bits BinOp.andNot IntKind.i64 3 ((e : Nat) : Int) = 3 - ((e : Nat) : Int)) ∧
    ((e : Nat) ≤ 7 → bits BinOp.andNot IntKind.i64 7 ((e : Nat) : Int) = 7 - ((e : Nat) : Int)) ∧ ((e : Nat) ≤ 15 → bits BinOp.andNot IntKind.i64 15 ((e : Nat) : Int) = 15 - ((e : Nat) : Int)) := by decide +kernel

theorem andNot_all {w e : Int} (h : evB w e = true) : bits BinOp.andNot IntKind.i64 (allI w) e = allI w - e := by
  have h' := (evB_iff w e).1 h
  obtain ⟨k, rfl⟩ := fin16 (evB_15 h).1 (evB_15 h).2
  obtain ⟨t1, t2, t3, t4⟩ := andNot_tab k
  rcases allI_of h'.1 h'.2.1 with ⟨-, h2⟩ | ⟨-, h2⟩ | ⟨-, h2⟩ | ⟨-, h2⟩ <;> rw [h2] at h' ⊢
  · exact t1 (by omega)
  · exact t2 (by omega)
  · exact t3 (by omega)
  · exact t4 (by omega)

theorem imp_tab : ∀ a b : Fin 16, (bits BinOp.andNot IntKind.i64 ((a : Nat) : Int) ((b : Nat) : Int) == 0) = (bits BinOp.and IntKind.i64 ((a : Nat) : Int) ((b : Nat) : Int) == ((a : Nat) : Int)) := by decide +kernel

theorem imp_eq {w a b : Int} (h : evB w a = true) (h2 : evB w b = true) : (bits BinOp.andNot IntKind.i64 a b == 0) = (bits BinOp.and IntKind.i64 a b == a) := by
  obtain ⟨k, rfl⟩ := fin16 (evB_15 h).1 (evB_15 h).2
  obtain ⟨j, rfl⟩ := fin16 (evB_15 h2).1 (evB_15 h2).2
  exact imp_tab k j

def notI (w e : Int) : Int := if evB w e = true then allI w - e else -1

def impB (w a b : Int) : Bool := evB w a && evB w b && (bits BinOp.andNot IntKind.i64 a b == 0)

def apB (w a b : Int) : Bool := evB w a && evB w b && (bits BinOp.and IntKind.i64 a b == 0)

theorem impB_ff {w a b : Int} (h : evB w a = false) : impB w a b = false := by rw [impB, h]; rfl

theorem impB_tf {w a b : Int} (h : evB w a = true) (h2 : evB w b = false) : impB w a b = false := by rw [impB, h, h2]; rfl

theorem impB_tt {w a b : Int} (h : evB w a = true) (h2 : evB w b = true) : impB w a b = (bits BinOp.andNot IntKind.i64 a b == 0) := by rw [impB, h, h2]; rfl

theorem apB_ff {w a b : Int} (h : evB w a = false) : apB w a b = false := by rw [apB, h]; rfl

theorem apB_tf {w a b : Int} (h : evB w a = true) (h2 : evB w b = false) : apB w a b = false := by rw [apB, h, h2]; rfl

theorem apB_tt {w a b : Int} (h : evB w a = true) (h2 : evB w b = true) : apB w a b = (bits BinOp.and IntKind.i64 a b == 0) := by rw [apB, h, h2]; rfl

theorem ev23 : evB 2 3 = true := by decide

theorem ev24 : evB 2 4 = false := by decide

set_option maxHeartbeats 400000 in
theorem alive_any (W : World) :
    Calls Try.prog 16 #[] W fun r W' => r = .returned (.bool true) ∧ W = W' := by
  have h1 := ev23
  have h2 := ev24
  go_enter Try.func16, Try.ntmps16
  go_wp2_with (go_at_call 47; refine (implEventOk_any _ _ _).mono ?_; rintro e w' ⟨rfl, rfl⟩)
  go_ret
  exact ⟨rfl, rfl⟩

end Go.Proofs.Ytpldhdidobggdaa
