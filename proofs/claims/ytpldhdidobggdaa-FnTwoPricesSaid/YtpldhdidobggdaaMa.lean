/- Contracts of the functions on measures: spec. Conditions: stated at each. -/
import Derived.Test.YtpldhdidobggdaaMw
import Derived.Test.YtpldhdidobggdaaQd
import Derived.Deep.RegionHeld3
import Derived.Handy
namespace Go.Proofs.Ytpldhdidobggdaa
open Go.RowKit
set_option linter.unusedVariables false

theorem inB_no {xs : List Int} {k : Nat} {x : Int} (hx : xs[k]? = some x) (h : inB x 0 36 = false) : meaB xs = false := by
  rw [← Bool.not_eq_true, meaB_iff]
  intro h2
  have := (inB_iff x 0 36).2 (h2.1 x (List.mem_of_getElem? hx))
  rw [h] at this; cases this

theorem allm_take {xs : List Int} {k : Nat} {x : Int} (hx : xs[k]? = some x) (h : inB x 0 36 = true) (ih : ∀ y ∈ xs.take k, 0 ≤ y ∧ y ≤ 36) : ∀ y ∈ xs.take (k + 1), 0 ≤ y ∧ y ≤ 36 := by
  rw [List.take_add_one, hx]
  intro y hy
  rcases List.mem_append.1 hy with h1 | h1
  · exact ih y h1
  · simp at h1; subst h1; exact (inB_iff _ _ _).1 h

theorem sum_le {xs : List Int} (h : ∀ y ∈ xs, 0 ≤ y ∧ y ≤ 36) : 0 ≤ xs.sum ∧ xs.sum ≤ 36 * (xs.length : Int) := by
  induction xs with
  | nil => simp
  | cons x xs ih =>
    have h1 := ih (fun y hy => h y (by simp [hy]))
    have h2 := h x (by simp)
    simp only [List.sum_cons, List.length_cons]
    omega

theorem sum_take {xs : List Int} {k : Nat} {x : Int} (hx : xs[k]? = some x) : (xs.take (k + 1)).sum = (xs.take k).sum + x := by
  rw [List.take_add_one, hx]
  simp

/-- the sum so far, as long as there are no more than four -/
def SumIs (xs : List Int) (k : Nat) (n : Int) : Prop := (∀ y ∈ xs.take k, 0 ≤ y ∧ y ≤ 36) ∧ (k ≤ 4 → n = (xs.take k).sum)

theorem SumIs.step {xs : List Int} {k : Nat} {n x : Int} (h : SumIs xs k n) (hx : xs[k]? = some x) (hi : inB x 0 36 = true) : SumIs xs (k + 1) (IntKind.i64.wrap (n + x)) ∧ SumIs xs (k + 1) (wrap64 (n + x)) := by
  have h2 := (inB_iff _ _ _).1 hi
  have key : k + 1 ≤ 4 → n + x = (xs.take (k + 1)).sum ∧ 0 ≤ n + x ∧ n + x ≤ 144 := by
    intro h4
    have hn := h.2 (by omega)
    have hb := sum_le h.1
    have hl : (xs.take k).length ≤ 3 := by simp; omega
    rw [sum_take hx]
    omega
  refine ⟨⟨allm_take hx hi h.1, fun h4 => ?_⟩, ⟨allm_take hx hi h.1, fun h4 => ?_⟩⟩
  · obtain ⟨k1, k2, k3⟩ := key h4
    rw [IntWalk.i64_in _ (by omega)]; exact k1
  · obtain ⟨k1, k2, k3⟩ := key h4
    rw [IntWalk.wrap64_in _ (by omega)]; exact k1

theorem SumIs.mea {xs : List Int} {n : Int} (h : SumIs xs xs.length n) : meaB xs = (inB (xs.length : Int) 1 4 && decide (n = 36)) := by
  have h1 := h.1
  rw [List.take_length] at h1
  apply bool_eq
  rw [meaB_iff, Bool.and_eq_true, inB_iff, decide_eq_true_eq]
  constructor
  · rintro ⟨-, a, b, c⟩
    refine ⟨by omega, ?_⟩
    rw [h.2 b, List.take_length]; exact c
  · rintro ⟨⟨a, b⟩, c⟩
    have h4 : xs.length ≤ 4 := by omega
    have := h.2 h4
    rw [List.take_length] at this
    exact ⟨h1, by omega, h4, by omega⟩

/-- grains, and not many worlds -/
def Grs (m : List Int) : Prop := (∀ x ∈ m, 0 ≤ x ∧ x ≤ 36) ∧ m.length ≤ 4

theorem grs_of {m : List Int} (h : meaB m = true) : Grs m := ⟨((meaB_iff m).1 h).1, ((meaB_iff m).1 h).2.2.1⟩

theorem grs_on {m : List Int} (h : Grs m) (e : Int) (k : Nat) : 0 ≤ onI (m.take k) e ∧ onI (m.take k) e ≤ 144 := by
  have h1 := onI_bound (m := m.take k) (fun x hx => (h.1 x (List.mem_of_mem_take hx)).1) e
  have h2 := sum_le (xs := m.take k) (fun y hy => h.1 y (List.mem_of_mem_take hy))
  have h3 : (m.take k).length ≤ 4 := by simp; have := h.2; omega
  omega

def IntPost (n : Int) (w : World) (e : Ending) (w' : World) : Prop := e = .returned (.int .i64 n) ∧ Below w.heap.size w w'

def BoolPost (b : Bool) (w : World) (e : Ending) (w' : World) : Prop := e = .returned (.bool b) ∧ Below w.heap.size w w'

/-- the grains on an event; -1 for others -/
def grI (m : List Int) (e : Int) : Int := if meaB m = true ∧ evB (m.length : Int) e = true then onI m e else -1

end Go.Proofs.Ytpldhdidobggdaa
