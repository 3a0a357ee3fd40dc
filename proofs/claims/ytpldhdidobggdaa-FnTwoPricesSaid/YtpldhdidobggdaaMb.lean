/- Contracts of the functions on measures: spec: BringsBy, l4Fits, FitsOk. Conditions: stated at each. -/
import Derived.Test.YtpldhdidobggdaaMa
import Derived.Test.YtpldhdidobggdaaGf
import Derived.Test.YtpldhdidobggdaaMw
namespace Go.Proofs.Ytpldhdidobggdaa
open Go.RowKit
set_option linter.unusedVariables false

def brB (m g : List Int) : Bool := meaB m && (gokB g && decide (m.length = g.length))

def brR (m g : List Int) : Int := if brB m g = true then brI m g else 0

theorem br_take_bound {m g : List Int} (hm : Grs m) (hg : gokB g = true) (h : m.length = g.length) (k : Nat) : -144000 ≤ brI (m.take k) (g.take k) ∧ brI (m.take k) (g.take k) ≤ 144000 := by
  have hg' := (gokB_iff g).1 hg
  have h1 := brI_bounds (m.take k) (g.take k) (by simp [h]) (fun x hx => (hm.1 x (List.mem_of_mem_take hx)).1) (-1000) 1000 (fun y hy => (hg'.2.2 y (List.mem_of_mem_take hy)).1) (fun y hy => (hg'.2.2 y (List.mem_of_mem_take hy)).2)
  have h2 := sum_le (xs := m.take k) (fun y hy => hm.1 y (List.mem_of_mem_take hy))
  have h3 : (m.take k).length ≤ 4 := by simp; have := hm.2; omega
  omega

theorem br_next {m g : List Int} (hm : Grs m) (hg : gokB g = true) (h : m.length = g.length) {k : Nat} {x y : Int} (hx : m[k]? = some x) (hy : g[k]? = some y) :
    brI (m.take k) (g.take k) + x * y = brI (m.take (k + 1)) (g.take (k + 1)) ∧ wrap64 (brI (m.take k) (g.take k) + x * y) = brI (m.take (k + 1)) (g.take (k + 1)) ∧ IntKind.i64.wrap (brI (m.take k) (g.take k) + x * y) = brI (m.take (k + 1)) (g.take (k + 1)) := by
  have h1 := brI_take hx hy h
  have h2 := br_take_bound hm hg h (k + 1)
  rw [h1] at h2 ⊢
  refine ⟨rfl, IntWalk.wrap64_in _ (by omega), IntWalk.i64_in _ (by omega)⟩

theorem mul_36 {x y : Int} (hx : 0 ≤ x ∧ x ≤ 36) (hy : -1000 ≤ y ∧ y ≤ 1000) : -36000 ≤ x * y ∧ x * y ≤ 36000 := by
  have h1 : 0 ≤ x * (1000 - y) := Int.mul_nonneg (by omega) (by omega)
  have h2 : 0 ≤ x * (1000 + y) := Int.mul_nonneg (by omega) (by omega)
  rw [Int.mul_sub] at h1
  rw [Int.mul_add] at h2
  omega

def NumPost (n : Int) (b : Bool) (w : World) (e : Ending) (w' : World) : Prop := e = .returned (.tuple #[.int .i64 n, .bool b]) ∧ Below w.heap.size w w'

theorem numPost_ret {n m : Int} {b c : Bool} {w w' : World} (h : n = m) (k : b = c) (hb : Below w.heap.size w w') : NumPost n b w (.returned (.tuple #[.int .i64 m, .bool c])) w' := by subst h; subst k; exact ⟨rfl, hb⟩

theorem br_no {m g : List Int} (h : brB m g = false) : brR m g = 0 := by rw [brR, h]; rfl

theorem br_yes {m g : List Int} (h : brB m g = true) : brR m g = brI m g := by rw [brR, if_pos h]

/-- quotes within bounds -/
def Qts (qs : List Qt) : Prop := ∀ q ∈ qs, (0 ≤ q.1 ∧ q.1 ≤ 15) ∧ 0 ≤ q.2 ∧ q.2 ≤ 6

theorem qts_of {w : Int} {qs : List Qt} (h : bokB w qs = true) : Qts qs := fun q hq => by
  have h1 := ((bokB_iff _ _).1 h).2.2 q hq
  obtain ⟨-, h2, h3, -, -, h4, h5⟩ := qok_true (w := w) (e := q.1) (p := q.2) h1
  exact ⟨⟨h4, h5⟩, h2, h3⟩

theorem fit_no {m : List Int} {qs : List Qt} {k : Nat} {q : Qt} (hx : qs[k]? = some q) (h : (onI m q.1 * 6 == q.2 * 36) = false) : fitI m qs = false := by
  rw [← Bool.not_eq_true, fitI, List.all_eq_true]
  intro h2
  have := h2 q (List.mem_of_getElem? hx)
  rw [h] at this; cases this

theorem fit_take {m : List Int} {qs : List Qt} {k : Nat} {q : Qt} (hx : qs[k]? = some q) (h : (onI m q.1 * 6 == q.2 * 36) = true) (ih : fitI m (qs.take k) = true) : fitI m (qs.take (k + 1)) = true := by
  rw [fitI, List.all_eq_true] at ih ⊢
  rw [List.take_add_one, hx]
  intro y hy
  rcases List.mem_append.1 hy with h1 | h1
  · exact ih y h1
  · simp at h1; subst h1; exact h

/-- whether a measure fits a book -/
def fitB (m : List Int) (qs : List Qt) : Bool := meaB m && (bokB (m.length : Int) qs && fitI m qs)

end Go.Proofs.Ytpldhdidobggdaa
