/- Contracts of the functions on gambles that return a row: spec. Conditions: rows that read as lists. -/
import Derived.Test.YtfdgelikmhaagaaGd
import Derived.Deep.AppendLies
import Derived.Deep.RegionLaw
namespace Go.Proofs.Ytfdgelikmhaagaa
open Go.RowKit
set_option linter.unusedVariables false

/-- the row p holds the first k of zs -/
def AppRel (w : World) (zs : List Int) (k : Nat) (p : Value) (wr : World) : Prop := IOwn wr w.heap.size p (zs.take k) ∧ Below w.heap.size w wr

theorem AppRel.step {w wr w' : World} {zs : List Int} {k : Nat} {p p' : Value} {x : Int} (h : AppRel w zs k p wr) (hx : zs[k]? = some x) (ho : IOwn w' w.heap.size p' (zs.take k ++ [x])) (hg : wr.grownBy w' p.ownBlock) : AppRel w zs (k + 1) p' w' := by
  obtain ⟨h1, h2⟩ := h
  refine ⟨?_, below_grown h2 hg h1 (Nat.le_refl _) h2.size⟩
  rw [List.take_add_one, hx]; exact ho

theorem AppRel.all {w wr : World} {zs : List Int} {k : Nat} {p : Value} (h : AppRel w zs k p wr) (hk : zs.length ≤ k) : IOwn wr w.heap.size p zs ∧ Below w.heap.size w wr := by
  obtain ⟨h1, h2⟩ := h
  rw [List.take_of_length_le hk] at h1
  exact ⟨h1, h2⟩

theorem app_start (w : World) (zs : List Int) : AppRel w zs 0 (.slice (some ⟨w.heap.size, 0, none⟩) 0 0) (w.alloc (.cells #[] 3)) :=
  ⟨World.ownsRow_lit w #[] 0 (Nat.le_refl _) (by unfold maxLen; omega) rfl, (Below.refl _ _).alloc (Nat.le_refl _) _⟩

theorem lit_own (w : World) (base : Nat) (hb : base ≤ w.heap.size) : IOwn (w.alloc (.cells #[] 3)) base (.slice (some ⟨w.heap.size, 0, none⟩) 0 0) [] :=
  World.ownsRow_lit w #[] 0 hb (by unfold maxLen; omega) rfl

theorem AppRel.below {w wr : World} {zs : List Int} {k : Nat} {p : Value} (h : AppRel w zs k p wr) : Below w.heap.size w wr := h.2

end Go.Proofs.Ytfdgelikmhaagaa
