/- The program's phrases: heldFrom, phraseOfMark. Conditions: texts of at most a million bytes. (gen_xpd.py) -/
import Derived.Test.YtfdlfgokoponmaaXpc
namespace Go.Proofs.Ytfdlfgokoponmaa
open Go.RowKit
set_option linter.unusedVariables false
set_option linter.unusedSimpArgs false

/-- a phrase as a value -/
def phC (T : Tm) : List Value := [.string ⟨(txtT T).toArray⟩, .int .i64 (lastM T).1]

def phV (T : Tm) : Value := .agg #[.string ⟨(txtT T).toArray⟩, .int .i64 (lastM T).1]

def PhPost (T : Tm) (w : World) (e : Ending) (w' : World) : Prop := e = .returned (phV T) ∧ Below w.heap.size w w'

theorem last_tab (T : Tm) : ((lastM T).1 = 0 ∧ ownT T = 2) ∨ ((lastM T).1 = 1 ∧ ownT T = 2) ∨ ((lastM T).1 = 2 ∧ ownT T = 1) ∨ ((lastM T).1 = 3 ∧ ownT T = 0) := by
  cases T with
  | lt b => exact .inl ⟨rfl, rfl⟩
  | no x => exact .inr (.inl ⟨rfl, rfl⟩)
  | an x y => exact .inr (.inr (.inl ⟨rfl, rfl⟩))
  | vel x y => exact .inr (.inr (.inr ⟨rfl, rfl⟩))

theorem held_no {T : Tm} {b : Nat} (h : ¬ ownT T < b) : heldT b T = txtT T := by rw [heldT, brk, if_neg (by simpa using h)]

theorem held_br {T : Tm} {b : Nat} (h : ownT T < b) : heldT b T = 40 :: (txtT T ++ [41]) := by rw [heldT, brk, if_pos (by simpa using h)]

theorem two_boxes {W w3 : World} {a b c d : Value} {t u : TypeId} (h : Below ((W.alloc (.cells #[a, b] t)).alloc (.cells #[c, d] u)).heap.size ((W.alloc (.cells #[a, b] t)).alloc (.cells #[c, d] u)) w3) :
    Blk w3 W.heap.size t #[a, b] ∧ Blk w3 (W.heap.size + 1) u #[c, d] := by
  constructor
  · exact (h.block W.heap.size (by simp; omega)).trans ((Below.heap_alloc _ _ _ (by simp)).trans (heap_alloc_new W _))
  · exact (h.block (W.heap.size + 1) (by simp)).trans (by rw [← World.size_alloc W (.cells #[a, b] t)]; exact heap_alloc_new _ _)

theorem old_cell {W : World} {o1 o2 : Obj} {g k : Nat} {v : Value} (h : W.cell? ⟨g, k, none⟩ = some v) : ((W.alloc o1).alloc o2).cell? ⟨g, k, none⟩ = some v := by
  have hlt := World.block_lt_of_cell? W _ h
  refine (World.cell?_of_block (a := ⟨g, k, none⟩) (Below.heap_alloc _ _ _ ?_)).trans ((World.cell?_of_block (a := ⟨g, k, none⟩) (Below.heap_alloc W _ _ hlt)).trans h)
  rw [World.size_alloc]; exact Nat.lt_succ_of_lt hlt

end Go.Proofs.Ytfdlfgokoponmaa
