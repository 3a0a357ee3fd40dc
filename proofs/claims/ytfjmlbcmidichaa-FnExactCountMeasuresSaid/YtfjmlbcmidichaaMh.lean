/- Contracts of MixedMeasure, spec and program. Conditions: rows that read as lists. -/
import Derived.Test.YtfjmlbcmidichaaNc
import Derived.Test.YtfjmlbcmidichaaGf
import Derived.Test.YtfjmlbcmidichaaMe
namespace Go.Proofs.Ytfjmlbcmidichaa
open Go.RowKit
set_option linter.unusedVariables false

theorem mixL_len (a b : List Int) (h : a.length = b.length) : (mixL a b).length = a.length := by
  induction a generalizing b with
  | nil => cases b <;> simp_all [mixL]
  | cons x a ih =>
    cases b with
    | nil => simp at h
    | cons y b => simp [mixL, ih b (by simpa using h)]

theorem mixL_at (a b : List Int) {k : Nat} {x y : Int} (hx : a[k]? = some x) (hy : b[k]? = some y) : (mixL a b)[k]? = some ((x + y) / 2) := by
  induction a generalizing b k with
  | nil => simp at hx
  | cons z a ih =>
    cases b with
    | nil => simp at hy
    | cons u b =>
      cases k with
      | zero => simp at hx hy; subst hx; subst hy; rfl
      | succ k => exact ih b (by simpa using hx) (by simpa using hy)

theorem even_all (a b : List Int) (h : ∀ (j : Nat) (x y : Int), a[j]? = some x → b[j]? = some y → (x + y) % 2 = 0) : evenB a b = true := by
  induction a generalizing b with
  | nil => cases b <;> rfl
  | cons x a ih =>
    cases b with
    | nil => rfl
    | cons y b =>
      rw [evenB, ih b (fun j u v hu hv => h (j + 1) u v (by simpa using hu) (by simpa using hv)), Bool.and_true, beq_iff_eq]
      exact h 0 x y rfl rfl

theorem even_at (a b : List Int) (he : evenB a b = true) {k : Nat} {x y : Int} (hx : a[k]? = some x) (hy : b[k]? = some y) : (x + y) % 2 = 0 := by
  induction a generalizing b k with
  | nil => simp at hx
  | cons z a ih =>
    cases b with
    | nil => simp at hy
    | cons u b =>
      rw [evenB, Bool.and_eq_true, beq_iff_eq] at he
      cases k with
      | zero => simp at hx hy; subst hx; subst hy; exact he.1
      | succ k => exact ih b he.2 (by simpa using hx) (by simpa using hy)

/-- up to place k both together are even -/
def EvTo (a b : List Int) (k : Nat) : Prop := ∀ (j : Nat) (x y : Int), j < k → a[j]? = some x → b[j]? = some y → (x + y) % 2 = 0

theorem EvTo.step {a b : List Int} {k : Nat} {x y : Int} (h : EvTo a b k) (hx : a[k]? = some x) (hy : b[k]? = some y) (he : (x + y) % 2 = 0) : EvTo a b (k + 1) := by
  intro j u v hj hu hv
  rcases Nat.lt_succ_iff_lt_or_eq.1 hj with h1 | h1
  · exact h j u v h1 hu hv
  · subst h1
    rw [hx] at hu; rw [hy] at hv
    obtain rfl := Option.some.inj hu
    obtain rfl := Option.some.inj hv
    exact he

theorem EvTo.all {a b : List Int} {k : Nat} (h : EvTo a b k) (hk : a.length ≤ k) : evenB a b = true :=
  even_all a b (fun j x y hx hy => h j x y (by have := (List.getElem?_eq_some_iff.1 hx).1; omega) hx hy)

def mixR (a b : List Int) : List Int := if mixB a b = true then mixL a b else []

theorem mix_yes {a b : List Int} (h : mixB a b = true) : mixR a b = mixL a b := by rw [mixR, if_pos h]

theorem mix_no {a b : List Int} (h : mixB a b = false) : mixR a b = [] := by rw [mixR, h]; rfl

theorem mix_is {a b : List Int} (h1 : meaB a = true) (h2 : meaB b = true) (h3 : a.length = b.length) : mixB a b = evenB a b := by
  rw [mixB, h1, h2, decide_eq_true h3]; rfl

theorem mix_odd {a b : List Int} {k : Nat} {x y : Int} (hx : a[k]? = some x) (hy : b[k]? = some y) (h : ¬ (x + y) % 2 = 0) : mixB a b = false := by
  rw [← Bool.not_eq_true, mixB, Bool.and_eq_true]
  exact fun h2 => h (even_at a b h2.2 hx hy)

theorem half_facts {x y : Int} (hx : 0 ≤ x ∧ x ≤ 36) (hy : 0 ≤ y ∧ y ≤ 36) : (x + y).tmod 2 = (x + y) % 2 ∧ (x + y).tdiv 2 = (x + y) / 2 ∧ 0 ≤ (x + y) / 2 ∧ (x + y) / 2 ≤ 36 :=
  ⟨Int.tmod_eq_emod_of_nonneg (by omega), Int.tdiv_eq_ediv_of_nonneg (by omega), by omega, by omega⟩

end Go.Proofs.Ytfjmlbcmidichaa
