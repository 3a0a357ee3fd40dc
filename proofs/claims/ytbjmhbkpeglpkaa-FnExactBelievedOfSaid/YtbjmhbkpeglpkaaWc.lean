/- Contracts of spec's CalledGain, l8Divisor, AfterEvent; the facts of what is left of a measure. Conditions: rows that read as lists. -/
import Derived.Test.YtbjmhbkpeglpkaaWb
namespace Go.Proofs.Ytbjmhbkpeglpkaa
open Go.RowKit
set_option linter.unusedVariables false

/-- a bit as the program reckons it -/
theorem bit_tmod8 {e : Int} (h0 : 0 ≤ e) (k : Nat) : ∃ u : Int, (e / 2 ^ k).tmod 2 = u ∧ bitI e k = u ∧ 0 ≤ u ∧ u ≤ 1 := by
  have h2 : 0 ≤ e / 2 ^ k := Int.ediv_nonneg h0 (Int.le_of_lt (Int.pow_pos (by decide)))
  refine ⟨bitI e k, by rw [Int.tmod_eq_emod_of_nonneg h2]; rfl, rfl, ?_, ?_⟩
  all_goals (rcases bitI_01 e k with h | h <;> rw [h] <;> decide)

/-! what is left of a measure if an event comes true -/

/-- the greatest common divisor of the grains on the first k worlds of an event, 0 if there are none -/
def divG (m : List Int) (e : Int) : Nat → Nat
  | 0 => 0
  | k + 1 => Nat.gcd (divG m e k) (bitI e k * m.getD k 0).toNat

def divI (m : List Int) (e : Int) : Int := ((max (divG m e m.length) 1 : Nat) : Int)

def aftI (m : List Int) (e : Int) (k : Nat) : Int := bitI e k * m.getD k 0 / divI m e

def aftL (m : List Int) (e : Int) : List Int := (List.range m.length).map (aftI m e)

def aftB (m : List Int) (e : Int) : Bool := meaB m && (evB (m.length : Int) e && !(onI m e == 0))

def aftR (m : List Int) (e : Int) : List Int := if aftB m e = true then aftL m e else []

theorem aft_len (m : List Int) (e : Int) : (aftL m e).length = m.length := by simp [aftL]

theorem aft_at {m : List Int} {e : Int} {k : Nat} (h : k < m.length) : (aftL m e)[k]? = some (aftI m e k) := by
  rw [aftL, List.getElem?_map, List.getElem?_range h]; rfl

theorem getD_at {m : List Int} {k : Nat} {x : Int} (h : m[k]? = some x) : m.getD k 0 = x := by rw [List.getD_eq_getElem?_getD, h]; rfl

theorem divG_dvd (m : List Int) (e : Int) (n : Nat) : ∀ j, j < n → divG m e n ∣ (bitI e j * m.getD j 0).toNat := by
  induction n with
  | zero => intro j hj; omega
  | succ n ih =>
    intro j hj
    rcases Nat.lt_succ_iff_lt_or_eq.1 hj with h | rfl
    · exact Nat.dvd_trans (Nat.gcd_dvd_left _ _) (ih j h)
    · exact Nat.gcd_dvd_right _ _

theorem divI_pos (m : List Int) (e : Int) : 1 ≤ divI m e := by unfold divI; omega

/-- the grains of each world of the event are that divisor times what is left -/
theorem aft_scale {m : List Int} (hm : ∀ x ∈ m, 0 ≤ x) (e : Int) {k : Nat} (hk : k < m.length) : bitI e k * m.getD k 0 = divI m e * aftI m e k ∧ 0 ≤ aftI m e k ∧ 0 ≤ bitI e k * m.getD k 0 := by
  obtain ⟨x, hx⟩ : ∃ x, m[k]? = some x := ⟨_, List.getElem?_eq_getElem hk⟩
  have h0 : 0 ≤ bitI e k * m.getD k 0 := by
    rw [getD_at hx]
    have := hm x (List.mem_of_getElem? hx)
    rcases bitI_01 e k with h | h <;> rw [h] <;> omega
  have hd := divG_dvd m e m.length k hk
  obtain ⟨y, hy⟩ : ∃ y : Nat, bitI e k * m.getD k 0 = y := ⟨(bitI e k * m.getD k 0).toNat, by omega⟩
  rw [hy, Int.toNat_natCast] at hd
  have hdv : (max (divG m e m.length) 1) ∣ y := by
    rcases Nat.eq_zero_or_pos (divG m e m.length) with hz | hz
    · rw [hz] at hd ⊢
      obtain rfl : y = 0 := by simpa using hd
      exact Nat.dvd_zero _
    · rwa [Nat.max_eq_left hz]
  obtain ⟨q, rfl⟩ := hdv
  have h1 := divI_pos m e
  have hq : aftI m e k = q := by
    unfold aftI
    rw [hy]
    unfold divI at h1 ⊢
    rw [← Int.natCast_ediv, Nat.mul_div_cancel_left _ (by omega)]
  rw [hy, hq]
  refine ⟨?_, by omega, by omega⟩
  unfold divI
  push_cast
  rfl

theorem aft_off {m : List Int} {e : Int} {k : Nat} (h : bitI e k = 0) : aftI m e k = 0 := by rw [aftI, h, Int.zero_mul, Int.zero_ediv]

/-- grains that are left go as before -/
theorem aft_go {m : List Int} (hm : ∀ x ∈ m, 0 ≤ x) {e : Int} {k j : Nat} (hk : k < m.length) (hj : j < m.length) (bk : bitI e k = 1) (bj : bitI e j = 1) : aftI m e k * m.getD j 0 = aftI m e j * m.getD k 0 := by
  obtain ⟨h1, -, -⟩ := aft_scale hm e hk
  obtain ⟨h2, -, -⟩ := aft_scale hm e hj
  rw [bk, Int.one_mul] at h1
  rw [bj, Int.one_mul] at h2
  rw [h1, h2]
  grind

theorem aft_bound {m : List Int} (hm : Grs m) (e : Int) {k : Nat} (hk : k < m.length) : 0 ≤ aftI m e k ∧ aftI m e k ≤ 36 := by
  obtain ⟨h1, h2, h3⟩ := aft_scale (fun x hx => (hm.1 x hx).1) e hk
  refine ⟨h2, ?_⟩
  obtain ⟨x, hx⟩ : ∃ x, m[k]? = some x := ⟨_, List.getElem?_eq_getElem hk⟩
  have hb := hm.1 x (List.mem_of_getElem? hx)
  have h4 : bitI e k * m.getD k 0 ≤ 36 := by
    rw [getD_at hx]
    rcases bitI_01 e k with h | h <;> rw [h] <;> omega
  have h5 : 1 * aftI m e k ≤ divI m e * aftI m e k := Int.mul_le_mul_of_nonneg_right (divI_pos m e) h2
  omega

theorem aftB_iff (m : List Int) (e : Int) : aftB m e = true ↔ meaB m = true ∧ evB (m.length : Int) e = true ∧ onI m e ≠ 0 := by
  simp [aftB]

theorem aftR_yes {m : List Int} {e : Int} (h : aftB m e = true) : aftR m e = aftL m e := by rw [aftR, if_pos h]

theorem aftR_no {m : List Int} {e : Int} (h : aftB m e = false) : aftR m e = [] := by rw [aftR, h]; rfl

theorem calR_yes {n a b p : Int} (h : calB n a b p = true) : calR n a b p = calL n a b p := by rw [calR, if_pos h]

theorem calR_no {n a b p : Int} (h : calB n a b p = false) : calR n a b p = [] := by rw [calR, h]; rfl

end Go.Proofs.Ytbjmhbkpeglpkaa
