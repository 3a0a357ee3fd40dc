/- Contracts of MixedMeasure: the program's (measuresOk, wholeParts). Conditions: rows that read as lists. -/
import Derived.Test.YtfjmlbcmidichaaMh
namespace Go.Proofs.Ytfjmlbcmidichaa
open Go.RowKit
set_option linter.unusedVariables false

/-- no rest is left -/
def divB (s : List Int) (d : Int) : Bool := s.all (fun x => x % d == 0)

def quoL (s : List Int) (d : Int) : List Int := s.map (fun x => x / d)

def partsR (s : List Int) (d : Int) : List Int := if divB s d = true then quoL s d else []

theorem div_no {s : List Int} {d : Int} (h : divB s d = false) : partsR s d = [] := by rw [partsR, h]; rfl

theorem div_yes {s : List Int} {d : Int} (h : divB s d = true) : partsR s d = quoL s d := by rw [partsR, if_pos h]

theorem div_iff (s : List Int) (d : Int) : divB s d = true ↔ ∀ x ∈ s, x % d = 0 := by simp [divB]

theorem sum_even (a b : List Int) (h : a.length = b.length) : divB (sumL a b) 2 = evenB a b := by
  induction a generalizing b with
  | nil => cases b <;> rfl
  | cons x a ih =>
    cases b with
    | nil => simp at h
    | cons y b => rw [evenB, ← ih b (by simpa using h)]; rfl

theorem sum_half (a b : List Int) : quoL (sumL a b) 2 = mixL a b := by
  induction a generalizing b with
  | nil => cases b <;> rfl
  | cons x a ih =>
    cases b with
    | nil => rfl
    | cons y b => rw [mixL, ← ih b]; rfl

theorem sumL_le {a b : List Int} (ha : ∀ x ∈ a, 0 ≤ x ∧ x ≤ 36) (hb : ∀ x ∈ b, 0 ≤ x ∧ x ≤ 36) : ∀ x ∈ sumL a b, 0 ≤ x ∧ x ≤ 1000 := by
  induction a generalizing b with
  | nil => intro x hx; cases b <;> simp [sumL] at hx
  | cons u a ih =>
    cases b with
    | nil => intro x hx; simp [sumL] at hx
    | cons v b =>
      intro x hx
      rw [sumL, List.mem_cons] at hx
      rcases hx with rfl | hx
      · have := ha u List.mem_cons_self
        have := hb v List.mem_cons_self
        omega
      · exact ih (fun y hy => ha y (List.mem_cons_of_mem _ hy)) (fun y hy => hb y (List.mem_cons_of_mem _ hy)) x hx

theorem take_mem4 {P : Int → Prop} {s : List Int} {k : Nat} {x : Int} (h : s[k]? = some x) (ih : ∀ y ∈ s.take k, P y) (hx : P x) : ∀ y ∈ s.take (k + 1), P y := by
  intro y hy
  rw [List.take_add_one, h, Option.toList_some, List.mem_append, List.mem_singleton] at hy
  rcases hy with hy | rfl
  · exact ih y hy
  · exact hx

theorem small3_mea {xs : List Int} (h : meaB xs = true) : Small3 xs := ⟨(grs_of h).2, fun k x hx => by have := (grs_of h).1 x (List.mem_of_getElem? hx); omega⟩

theorem mix_of_two {a b : List Int} (h : (meaB a && meaB b && decide (a.length = b.length)) = false) : mixB a b = false := by rw [mixB, h]; rfl

end Go.Proofs.Ytfjmlbcmidichaa
