/- Contracts of the program's functions on measures: MeasureOk, grainsOn, GrainsOn, BringsBy. Conditions: rows that read as lists. Contracts of the program's fits, FitsOk. Conditions: stated at each. -/
import Derived.Test.YtkanfolgppbklaaMb
import Derived.Test.YtkanfolgppbklaaQc
namespace Go.Proofs.Ytkanfolgppbklaa
open Go.RowKit
set_option linter.unusedVariables false

/-- what is left of the grains -/
def LeftIs (xs : List Int) (k : Nat) (n : Int) : Prop := (∀ y ∈ xs.take k, 0 ≤ y ∧ y ≤ 36) ∧ n = 36 - (xs.take k).sum ∧ 0 ≤ n ∧ n ≤ 36

theorem LeftIs.step {xs : List Int} {k : Nat} {n x : Int} (h : LeftIs xs k n) (hx : xs[k]? = some x) (h0 : 0 ≤ x) (h1 : x ≤ n) : LeftIs xs (k + 1) (n - x) := by
  obtain ⟨a, b, c, d⟩ := h
  refine ⟨allm_take hx ((inB_iff _ _ _).2 (by omega)) a, ?_, by omega, by omega⟩
  rw [sum_take hx]; omega

theorem take_sum_le {xs : List Int} (h : ∀ y ∈ xs, 0 ≤ y) (k : Nat) : (xs.take k).sum ≤ xs.sum := by
  induction xs generalizing k with
  | nil => simp
  | cons x xs ih =>
    cases k with
    | zero =>
      have h1 := ih (fun y hy => h y (by simp [hy])) 0
      have h2 := h x (by simp)
      simp at h1 ⊢; omega
    | succ k =>
      have h1 := ih (fun y hy => h y (by simp [hy])) k
      simp; omega

theorem left_no {xs : List Int} {k : Nat} {n x : Int} (h : LeftIs xs k n) (hx : xs[k]? = some x) (h0 : x < 0 ∨ n < x) : meaB xs = false := by
  rw [← Bool.not_eq_true, meaB_iff]
  rintro ⟨a, -, -, d⟩
  have h1 := take_sum_le (fun y hy => (a y hy).1) (k + 1)
  rw [sum_take hx] at h1
  have h2 := a x (List.mem_of_getElem? hx)
  obtain ⟨-, b, -, -⟩ := h
  omega

theorem left_all {xs : List Int} {k : Nat} {n : Int} (h : LeftIs xs k n) (hk : xs.length ≤ k) (hw : wokB (xs.length : Int) = true) : meaB xs = (n == 0) := by
  obtain ⟨a, b, -, -⟩ := h
  rw [List.take_of_length_le hk] at a b
  obtain ⟨w1, w2⟩ := (wokB_iff _).1 hw
  apply bool_eq
  rw [meaB_iff, beq_iff_eq]
  exact ⟨fun ⟨_, _, _, d⟩ => by omega, fun e => ⟨a, by omega, by omega, by omega⟩⟩

theorem mea_wok {xs : List Int} (hw : wokB (xs.length : Int) = false) : meaB xs = false := by
  rw [← Bool.not_eq_true, meaB_iff]
  rintro ⟨-, b, c, -⟩
  rw [← Bool.not_eq_true, wokB_iff] at hw
  omega

theorem on_next {m : List Int} (hm : Grs m) {k : Nat} {x : Int} (hx : m[k]? = some x) (e : Int) :
    ((bitI e k == 1) = true → onI (m.take k) e + x = onI (m.take (k + 1)) e) ∧ ((bitI e k == 1) = false → onI (m.take k) e = onI (m.take (k + 1)) e) := by
  have h1 := onI_take hx e
  rcases bitI_01 e k with h | h
  · rw [h] at h1; rw [h]
    refine ⟨fun h2 => by simp at h2, fun _ => by rw [h1]; omega⟩
  · rw [h] at h1; rw [h]
    refine ⟨fun _ => by rw [h1]; omega, fun h2 => by simp at h2⟩

theorem br_next' {m g : List Int} (hm : Grs m) (hg : gokB g = true) (h : m.length = g.length) {k : Nat} {x y : Int} (hx : m[k]? = some x) (hy : g[k]? = some y) :
    brI (m.take k) (g.take k) + y * x = brI (m.take (k + 1)) (g.take (k + 1)) ∧ wrap64 (brI (m.take k) (g.take k) + y * x) = brI (m.take (k + 1)) (g.take (k + 1)) ∧ IntKind.i64.wrap (brI (m.take k) (g.take k) + y * x) = brI (m.take (k + 1)) (g.take (k + 1)) := by
  rw [Int.mul_comm y x]; exact br_next hm hg h hx hy

end Go.Proofs.Ytkanfolgppbklaa

namespace Go.Proofs.Ytkanfolgppbklaa
open Go.RowKit
set_option linter.unusedVariables false

theorem fit_step {m : List Int} {qs : List Qt} {k : Nat} {q : Qt} (hx : qs[k]? = some q) : fitI m (qs.take (k + 1)) = (fitI m (qs.take k) && (onI m q.1 * 6 == q.2 * 36)) := by
  rw [fitI, fitI, List.take_add_one, hx]
  simp

end Go.Proofs.Ytkanfolgppbklaa
