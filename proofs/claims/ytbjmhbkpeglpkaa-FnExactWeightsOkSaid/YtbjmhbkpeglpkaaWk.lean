/- Contracts of spec's l8Divisor, AfterEvent. Conditions: a row that reads as a list. -/
import Derived.Test.YtbjmhbkpeglpkaaWc
namespace Go.Proofs.Ytbjmhbkpeglpkaa
open Go.RowKit
set_option linter.unusedVariables false

theorem divG_next {m : List Int} {e : Int} {k n : Nat} (h : bitI e k * m.getD k 0 = (n : Int)) : divG m e (k + 1) = Nat.gcd (divG m e k) n := by
  rw [divG, h, Int.toNat_natCast]

theorem divG_le {m : List Int} {e : Int} (hm : Grs m) (k : Nat) (hk : k ≤ m.length) : divG m e k ≤ 36 := by
  induction k with
  | zero => simp [divG]
  | succ k ih =>
    have h1 := ih (by omega)
    obtain ⟨x, hx⟩ : ∃ x, m[k]? = some x := ⟨_, List.getElem?_eq_getElem hk⟩
    have hb := hm.1 x (List.mem_of_getElem? hx)
    obtain ⟨n, hn, hn2⟩ : ∃ n : Nat, bitI e k * m.getD k 0 = (n : Int) ∧ n ≤ 36 := by
      rw [getD_at hx]
      rcases bitI_01 e k with h | h <;> rw [h]
      · exact ⟨0, by omega, by omega⟩
      · exact ⟨x.toNat, by omega, by omega⟩
    rw [divG_next hn]
    rcases Nat.eq_zero_or_pos n with h0 | h0
    · rw [h0, Nat.gcd_zero_right]; exact h1
    · exact Nat.le_trans (Nat.gcd_le_right _ h0) hn2

end Go.Proofs.Ytbjmhbkpeglpkaa
