/- Either some measure lies between two sided prices, or some stakes surely win: the rest of the table. No condition. -/
import Derived.Test.YtodmgcbcacblbaaJw
namespace Go.Proofs.Ytodmgcbcacblbaa

theorem side4c : ([4, 6] : List Nat).all (fun a => (evens 4).all fun b => (evens 4).all fun c => !(Nat.ble a b && Nat.ble b c) || side13 4 a b c) = true := by decide +kernel

theorem side4d : ([8, 10, 12, 14] : List Nat).all (fun a => (evens 4).all fun b => (evens 4).all fun c => !(Nat.ble a b && Nat.ble b c) || side13 4 a b c) = true := by decide +kernel

theorem side_tab {w : Nat} (h1 : 1 ≤ w) (h4 : w ≤ 4) {a b c : Nat} (ha : a ∈ evens w) (hb : b ∈ evens w) (hc : c ∈ evens w) (hab : a ≤ b) (hbc : b ≤ c) : side13 w a b c = true := by
  have key : ∀ l : List Nat, a ∈ l → l.all (fun a => (evens w).all fun b => (evens w).all fun c => !(Nat.ble a b && Nat.ble b c) || side13 w a b c) = true → side13 w a b c = true := by
    intro l hl h
    have h := List.all_eq_true.1 (List.all_eq_true.1 (List.all_eq_true.1 h a hl) b hb) c hc
    simpa [Nat.ble_eq_true_of_le hab, Nat.ble_eq_true_of_le hbc] using h
  obtain rfl | rfl | rfl | rfl : w = 1 ∨ w = 2 ∨ w = 3 ∨ w = 4 := by omega
  · exact key _ ha side1
  · exact key _ ha side2
  · exact key _ ha side3
  · have : a ∈ [0] ∨ a ∈ [2] ∨ a ∈ [4, 6] ∨ a ∈ [8, 10, 12, 14] := by
      rw [show evens 4 = [0, 2, 4, 6, 8, 10, 12, 14] from by decide] at ha
      simp only [List.mem_cons, List.not_mem_nil, or_false] at ha ⊢
      omega
    rcases this with h | h | h | h
    · exact key _ h side4a
    · exact key _ h side4b
    · exact key _ h side4c
    · exact key _ h side4d

end Go.Proofs.Ytodmgcbcacblbaa
