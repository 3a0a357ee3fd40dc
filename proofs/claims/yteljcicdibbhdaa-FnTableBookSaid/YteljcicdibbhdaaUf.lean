/- Contracts of spec's BringsIn and of the laws' sameBets. Conditions: rows that read as lists. -/
import Derived.Test.YteljcicdibbhdaaUd
import Derived.Test.YteljcicdibbhdaaUb
namespace Go.Proofs.Yteljcicdibbhdaa
open Go.RowKit
set_option linter.unusedVariables false

theorem okBt_iff (b : Bt) : okBt b = true ↔ (0 ≤ b.1 ∧ b.1 ≤ 15) ∧ (0 ≤ b.2.1 ∧ b.2.1 ≤ 36) ∧ -9 ≤ b.2.2 ∧ b.2.2 ≤ 9 := by
  rw [okBt, Bool.and_eq_true, Bool.and_eq_true, evB_iff, inB_iff, inB_iff]
  have : allI 4 = 15 := by decide
  rw [this]
  omega

theorem mul_936 {s d : Int} (hs : -9 ≤ s ∧ s ≤ 9) (hd : -36 ≤ d ∧ d ≤ 36) : -324 ≤ s * d ∧ s * d ≤ 324 := by
  obtain ⟨s1, s2⟩ := hs
  have h1 : -9 * 36 ≤ s * d ∧ s * d ≤ 9 * 36 := by
    have : s = -9 ∨ s = -8 ∨ s = -7 ∨ s = -6 ∨ s = -5 ∨ s = -4 ∨ s = -3 ∨ s = -2 ∨ s = -1 ∨ s = 0 ∨ s = 1 ∨ s = 2 ∨ s = 3 ∨ s = 4 ∨ s = 5 ∨ s = 6 ∨ s = 7 ∨ s = 8 ∨ s = 9 := by omega
    rcases this with rfl | rfl | rfl | rfl | rfl | rfl | rfl | rfl | rfl | rfl | rfl | rfl | rfl | rfl | rfl | rfl | rfl | rfl | rfl <;> omega
  omega

theorem bet_bound {b : Bt} (h : okBt b = true) (k : Nat) : -324 ≤ betI k b ∧ betI k b ≤ 324 := by
  obtain ⟨-, h2, h3⟩ := (okBt_iff b).1 h
  exact mul_936 h3 (by rcases bitI_01 b.1 k with e | e <;> rw [e] <;> omega)

theorem bs_take {bs : List Bt} {j : Nat} {b : Bt} (h : bs[j]? = some b) (k : Nat) : bsI (bs.take (j + 1)) k = bsI (bs.take j) k + betI k b := by
  rw [List.take_add_one, h, bs_append]
  simp [bsI]

theorem bs_bound {bs : List Bt} (h : bs.all okBt = true) (k : Nat) : -(324 * (bs.length : Int)) ≤ bsI bs k ∧ bsI bs k ≤ 324 * (bs.length : Int) := by
  induction bs with
  | nil => simp [bsI]
  | cons b bs ih =>
    rw [List.all_cons, Bool.and_eq_true] at h
    have h1 := bet_bound h.1 k
    have h2 := ih h.2
    have h3 : bsI (b :: bs) k = betI k b + bsI bs k := rfl
    rw [h3, List.length_cons]
    push_cast
    omega

theorem okb_take {bs : List Bt} {k : Nat} {b : Bt} (hx : bs[k]? = some b) (h : okBt b = true) (ih : (bs.take k).all okBt = true) : (bs.take (k + 1)).all okBt = true := by
  rw [List.take_add_one, hx, List.all_append, ih]
  simp [h]

theorem okb_no {bs : List Bt} {k : Nat} {b : Bt} (hx : bs[k]? = some b) (h : okBt b = false) (w : Int) : bsB bs w = false := by
  have : bs.all okBt = false := by
    rw [← Bool.not_eq_true, List.all_eq_true]
    intro h2
    have := h2 b (List.mem_of_getElem? hx)
    rw [h] at this; cases this
  rw [bsB, this]; rfl

theorem bsN_no {bs : List Bt} {w : Int} (h : bsB bs w = false) : bsN bs w = 0 := by rw [bsN, h]; rfl

/-- events are at most 15: shifted however far -/
theorem shr_any {e : Int} (h0 : 0 ≤ e) (h1 : e ≤ 15) (W : Nat) : Op.shift .shr .i64 e .i64 (W : Int) = pure (.int .i64 (e / 2 ^ W)) := by
  by_cases h : (W : Int) ≤ 64
  · rw [shift_shr .i64 .i64 e (W : Int) (by omega) (by simpa [IntKind.bits] using h), Int.toNat_natCast]
  · unfold Op.shift
    have hm : min (W : Int).toNat IntKind.i64.bits = 64 := by
      rw [Int.toNat_natCast]
      show min W 64 = 64
      omega
    rw [if_neg (by omega), hm]
    have e1 : e.fdiv (2 ^ 64) = 0 := by rw [Int.fdiv_eq_ediv_of_nonneg _ (by decide)]; omega
    have e2 : e / 2 ^ W = 0 := by
      have h64 : (2 : Int) ^ 64 ≤ 2 ^ W := by
        have : 2 ^ 64 ≤ 2 ^ W := Nat.pow_le_pow_right (by decide) (by omega)
        exact_mod_cast this
      exact Int.ediv_eq_zero_of_lt h0 (by omega)
    simp only [e1, e2]

end Go.Proofs.Yteljcicdibbhdaa
