/- The program's SumTerm. No condition. (gen_xpj.py) -/
import Derived.Test.YtfdlfgokoponmaaDoorXpc
import Derived.Test.YtfdlfgokoponmaaDoorXpb
namespace Go.Proofs.YtfdlfgokoponmaaDoor
open Go.RowKit
set_option linter.unusedVariables false
set_option linter.unusedSimpArgs false

/-- the letters of a world, the first j of them -/
def wlL (k j : Nat) : List Mk := if j = 0 then [] else if j = 1 then (if k % 2 = 0 then [(0, 0), (1, 0)] else [(0, 0)]) else (if k % 2 = 0 then [(0, 0), (1, 0)] else [(0, 0)]) ++ (if k < 2 then [(0, 1), (1, 0)] else [(0, 1)])

theorem wl_world {k : Nat} : wlL k 2 ++ [(2, 0)] = encT (worldT k) := by
  unfold worldT wlL
  by_cases h1 : k % 2 = 0 <;> by_cases h2 : k < 2 <;> simp [h1, h2, encT, letM]

theorem wl_len (k j : Nat) : (wlL k j).length ≤ 4 := by
  unfold wlL
  by_cases h0 : j = 0 <;> by_cases h3 : j = 1 <;> by_cases h1 : k % 2 = 0 <;> by_cases h2 : k < 2 <;> simp [h0, h1, h2, h3]

/-- marks behind marks -/
def AddPost (ms ns : List Mk) (base : Nat) (w : World) (e : Ending) (w' : World) : Prop := ∃ v, e = .returned v ∧ MOwn w' base v (ms ++ ns) ∧ Below base w w'

theorem bitq_tab : ∀ E : Fin 16, ∀ k : Fin 4, (bitI ((E : Nat) : Int) (k : Nat) == 1) = !decide ((E : Nat) / 2 ^ (k : Nat) % 2 = 0) := by decide +kernel

theorem sum_pos : ∀ E : Fin 16, (E : Nat) ≠ 0 → ¬ (sumP (E : Nat) 4).length = 0 := by decide

theorem mlit4 (w : World) (base : Nat) (hb : base ≤ w.heap.size) (cs : Array Value) (ms : List Mk) (h : cs.toList = ms.flatMap qC) (h4 : ms.length = 4) : MOwn (w.alloc (.cells cs 59)) base (.slice (some ⟨w.heap.size, 0, none⟩) 4 4) ms := by
  unfold MOwn GOwn
  rw [h4, ← h]
  exact World.ownsRow_lit w cs 4 hb (by unfold maxLen; omega) (by rw [← Array.length_toList, h, flat_len qC_len, h4])

end Go.Proofs.YtfdlfgokoponmaaDoor
