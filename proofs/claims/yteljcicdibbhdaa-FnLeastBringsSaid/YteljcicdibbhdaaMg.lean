/- Contracts on the walk over measures: spec: l4Units, FairOk. Conditions: stated at each. -/
import Derived.Test.YteljcicdibbhdaaMe
namespace Go.Proofs.Yteljcicdibbhdaa
open Go.RowKit
set_option linter.unusedVariables false

def unitFit (u : Int) (c : List Nat) (qs : List Qt) : Bool := qs.all fun q => onI (natL c) q.1 * u * 6 == q.2 * 36

theorem unit_step {u : Int} {c : List Nat} {qs : List Qt} {k : Nat} {q : Qt} (hx : qs[k]? = some q) : unitFit u c (qs.take (k + 1)) = (unitFit u c (qs.take k) && (onI (natL c) q.1 * u * 6 == q.2 * 36)) := by
  rw [unitFit, unitFit, List.take_add_one, hx]
  simp

theorem unit_any_at {n u d : Nat} {qs : List Qt} {l : List Nat} (hd : (lay n (36 / u))[d]? = some l) (h : unitFit u l qs = true) : anyUnit n u qs = true := by
  rw [anyUnit, List.any_eq_true]; exact ⟨l, List.mem_of_getElem? hd, h⟩

theorem unit_any_none {n u : Nat} {qs : List Qt} (h : ∀ j, j < (lay n (36 / u)).length → ∀ x, (lay n (36 / u))[j]? = some x → unitFit u x qs = false) : anyUnit n u qs = false := by
  rw [← Bool.not_eq_true, anyUnit, List.any_eq_true]
  rintro ⟨x, hx, hf⟩
  obtain ⟨j, hj, e⟩ := List.getElem_of_mem hx
  have := h j hj x (by rw [← e]; exact List.getElem?_eq_getElem hj)
  rw [unitFit] at this
  rw [this] at hf; cases hf

theorem lay_grs {n g d : Nat} {l : List Nat} (h1 : 1 ≤ n) (h4 : n ≤ 4) (hg : g ≤ 36) (h : (lay n g)[d]? = some l) : Grs (natL l) := by
  obtain ⟨a, b⟩ := lay_facts h1 h
  refine ⟨fun x hx => ?_, by rw [natL_len]; omega⟩
  obtain ⟨y, hy, rfl⟩ := List.mem_map.1 hx
  have h2 : y ≤ l.sum := by
    clear hx a b h
    induction l with
    | nil => simp at hy
    | cons z l ih =>
      rcases List.mem_cons.1 hy with rfl | h3
      · simp
      · have := ih h3; simp; omega
  constructor
  · exact Int.natCast_nonneg _
  · show (y : Int) ≤ 36
    omega

def fairB (n : Int) (qs : List Qt) : Bool := bokB n qs && anyFit n.toNat qs

theorem fair_of {n : Nat} {qs : List Qt} (h : bokB (n : Int) qs = true) {a b c : Bool} (ha : anyUnit n 6 qs = a) (hb : anyUnit n 3 qs = b) (hc : anyUnit n 2 qs = c) : fairB n qs = (a || (b || c)) := by
  rw [fairB, h, Int.toNat_natCast, ← fair_units h, ha, hb, hc]; rfl

theorem fair_no {n : Int} {qs : List Qt} (h : bokB n qs = false) : fairB n qs = false := by rw [fairB, h]; rfl

end Go.Proofs.Yteljcicdibbhdaa
