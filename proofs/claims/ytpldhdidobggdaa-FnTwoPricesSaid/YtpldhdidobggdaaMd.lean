/- Contracts on the walk over measures: spec: l4Step at any row; FirstMeasure, CountMeasures. Conditions: stated at each. -/
import Derived.Test.YtpldhdidobggdaaMc
import Derived.Deep.LoopGhost
namespace Go.Proofs.Ytpldhdidobggdaa
open Go.RowKit
set_option linter.unusedVariables false

/-- where the walk over the ways to lay g grains stands: at the d-th, or past the last -/
def WkRel (B : World) (n g : Nat) (v : Value) (d : Nat) (t : Bool) (wr : World) : Prop :=
  Below B.heap.size B wr ∧ ∃ l, IOwn wr B.heap.size v (natL l) ∧ (t = true → (lay n g)[d]? = some l) ∧ (t = false → (lay n g).length = d)

theorem lay_facts {n g d : Nat} {l : List Nat} (h1 : 1 ≤ n) (h : (lay n g)[d]? = some l) : l.length = n ∧ l.sum = g := by
  obtain ⟨k, rfl⟩ : ∃ k, n = k + 1 := ⟨n - 1, by omega⟩
  exact (mem_lay k g l).1 (List.mem_of_getElem? h)

theorem WkRel.keep {B wr w' : World} {n g d : Nat} {v : Value} {t : Bool} (h : WkRel B n g v d t wr) (hb : Below wr.heap.size wr w') : WkRel B n g v d t w' := by
  obtain ⟨h1, l, h2, h3, h4⟩ := h
  exact ⟨below_step h1 hb h1.size, l, h2.keep (SameAt.of_below hb), h3, h4⟩

theorem WkRel.start {B w' : World} {n g : Nat} {v : Value} (h1 : 1 ≤ n) (o : IOwn w' B.heap.size v (natL (firstL n g))) (hb : Below B.heap.size B w') : WkRel B n g v 0 true w' := by
  obtain ⟨k, rfl⟩ : ∃ k, n = k + 1 := ⟨n - 1, by omega⟩
  exact ⟨hb, _, o, fun _ => lay_first k g, fun h => by cases h⟩

/-- a step -/
theorem WkRel.step {B wr w' : World} {n g d : Nat} {v : Value} {l : List Nat} {e : Ending} (h1 : 1 ≤ n) (h4 : n ≤ 4) (hg : g = 36 ∨ g = 18 ∨ g = 12 ∨ g = 6) (hb : Below B.heap.size B wr) (hd : (lay n g)[d]? = some l)
    (h : StepPost B.heap.size v l wr e w') : ∃ t, e = .returned (.bool t) ∧ WkRel B n g v (d + 1) t w' := by
  obtain ⟨t, l', rfl, hs, -, o, hgr, hz⟩ := h
  have hc := chain_at (chain_of h1 h4 hg) hd
  have hlt : d < (lay n g).length := (List.getElem?_eq_some_iff.1 hd).1
  refine ⟨t, rfl, hb.grown hgr hb.size (fun k hk => (o.ge k hk).1), l', o, fun ht => ?_, fun ht => ?_⟩
  · subst ht; rw [← hc]; exact hs
  · subst ht
    have : (lay n g)[d + 1]? = none := by rw [← hc]; exact hs
    have := List.getElem?_eq_none_iff.1 this
    omega

theorem find_at {α : Type} {p : α → Bool} {L : List α} {d : Nat} {l : α} (h : ∀ j, j < d → ∀ x, L[j]? = some x → p x = false) (hd : L[d]? = some l) (hp : p l = true) : L.find? p = some l := by
  induction L generalizing d with
  | nil => simp at hd
  | cons x L ih =>
    cases d with
    | zero => simp at hd; subst hd; rw [List.find?_cons, hp]
    | succ d =>
      have hx := h 0 (by omega) x rfl
      rw [List.find?_cons, hx]
      exact ih (d := d) (fun j hj y hy => h (j + 1) (Nat.succ_lt_succ hj) y (by simpa using hy)) (by simpa using hd)

theorem find_none {α : Type} {p : α → Bool} {L : List α} (h : ∀ j, j < L.length → ∀ x, L[j]? = some x → p x = false) : L.find? p = none := by
  rw [List.find?_eq_none]
  intro x hx
  obtain ⟨j, hj, e⟩ := List.getElem_of_mem hx
  have := h j hj x (by rw [← e]; exact List.getElem?_eq_getElem hj)
  simp [this]

def firstB (n : Int) (qs : List Qt) : Bool := bokB n qs && (firstFit n.toNat qs).isSome

def firstR (n : Int) (qs : List Qt) : List Int := if bokB n qs = true then ((firstFit n.toNat qs).map natL).getD [] else []

theorem first_no {n : Int} {qs : List Qt} (h : bokB n qs = false) : firstB n qs = false ∧ firstR n qs = [] := by
  constructor
  · rw [firstB, h]; rfl
  · rw [firstR, h]; rfl

theorem first_at {n : Nat} {qs : List Qt} (h : bokB (n : Int) qs = true) {d : Nat} {l : List Nat} (hno : ∀ j, j < d → ∀ x, (lay n 36)[j]? = some x → fitI (natL x) qs = false) (hd : (lay n 36)[d]? = some l) (hp : fitI (natL l) qs = true) :
    firstB n qs = true ∧ firstR n qs = natL l := by
  have hf : firstFit n qs = some l := find_at hno hd hp
  rw [firstB, firstR, h, Int.toNat_natCast, hf]
  exact ⟨rfl, rfl⟩

theorem first_none {n : Nat} {qs : List Qt} (h : bokB (n : Int) qs = true) (hno : ∀ j, j < (lay n 36).length → ∀ x, (lay n 36)[j]? = some x → fitI (natL x) qs = false) : firstB n qs = false ∧ firstR n qs = [] := by
  have hf : firstFit n qs = none := find_none hno
  rw [firstB, firstR, h, Int.toNat_natCast, hf]
  exact ⟨rfl, rfl⟩

end Go.Proofs.Ytpldhdidobggdaa
