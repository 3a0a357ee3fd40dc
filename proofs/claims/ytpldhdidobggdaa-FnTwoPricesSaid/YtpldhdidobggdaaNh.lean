/- Contracts of the program's fitting, CountMeasures. Conditions: a row of quotes that reads as a list. -/
import Derived.Test.YtpldhdidobggdaaNg
import Derived.Test.YtpldhdidobggdaaMg
namespace Go.Proofs.Ytpldhdidobggdaa
open Go.RowKit Go.Shelf
set_option linter.unusedVariables false
attribute [local go_sem] Oper.semAt_some

/-- the walk as a function value: it has captured the variables at b and b + 1 -/
def fitV (b : Nat) : Value := .func (.func 71) #[] #[.pointer (some ⟨b, 0, none⟩), .pointer (some ⟨b + 1, 0, none⟩)]

set_option maxHeartbeats 1000000 in
theorem fitting_any (W : World) (m : Int) (A : Option Addr) (len c : Nat) :
    Calls Try.prog 51 #[.int .i64 m, .slice A len c] W fun r W' => r = .returned (fitV W.heap.size) ∧ (W.alloc (.cells #[.int .i64 m] 3)).alloc (.cells #[.slice A len c] 23) = W' := by
  go_enter Try.func51, Try.ntmps51
  go_wp2
  go_ret
  exact ⟨rfl, rfl⟩

theorem count_all {m : Nat} {qs : List Qt} (h : bokB (m : Int) qs = true) : countI m qs = ((fitAll m qs).length : Nat) := by
  rw [countI, if_pos h, Int.toNat_natCast, fitAll, List.length_map]; rfl

theorem pre_len {m : Nat} {qs : List Qt} {pre : List (List Int)} {x : List Int} (m1 : 1 ≤ m) (m4 : m ≤ 4) (h : (pre ++ [x]) <+: fitAll m qs) : pre.length ≤ 9139 := by
  have h1 := h.length_le
  have h2 := count_le m1 m4 qs
  have h3 : (fitAll m qs).length = countFit m qs := by rw [fitAll, List.length_map]; rfl
  simp at h1
  omega

/-- what holds between two rounds of the count -/
def CntI (w : World) (C : Nat) (pre : List (List Int)) (A : World) : Prop := A.cell? ⟨C, 0, none⟩ = some (.int .i64 (pre.length : Nat)) ∧ A.frozen? ⟨C, 0, none⟩ = false ∧ Below w.heap.size w A

theorem cnt_stays {w : World} {C B : Nat} (hC : C < B) (hB : w.heap.size ≤ B) : Stays B (CntI w C) := by
  rintro pre A A' ⟨h1, h2, h3⟩ hb
  exact ⟨(hb.cell (p := ⟨C, 0, none⟩) hC).trans h1, (hb.frozen (p := ⟨C, 0, none⟩) hC).trans h2, h3.trans (hb.mono hB)⟩

theorem kept_set (C : Nat) (A : World) (u : Value) : KeptBut C C A (A.setCell ⟨C, 0, none⟩ u) :=
  ⟨by simp [World.setCell], fun k _ hk _ => Below.heap_setCell A ⟨C, 0, none⟩ u k hk⟩

theorem new_cell (W : World) (v : Value) (t : TypeId) : (W.alloc (.cells #[v] t)).cell? ⟨W.heap.size, 0, none⟩ = some v ∧ (W.alloc (.cells #[v] t)).frozen? ⟨W.heap.size, 0, none⟩ = false := ⟨by simp, by simp⟩

theorem old_cell {W : World} {b : Nat} {v : Value} (o : Obj) (h : W.cell? ⟨b, 0, none⟩ = some v) : (W.alloc o).cell? ⟨b, 0, none⟩ = some v :=
  (((Below.refl _ W).alloc (Nat.le_refl _) o).cell (p := ⟨b, 0, none⟩) (World.block_lt_of_cell? W _ h)).trans h

theorem old_frz {W : World} {b : Nat} {v : Value} (o : Obj) (h : W.cell? ⟨b, 0, none⟩ = some v) (hf : W.frozen? ⟨b, 0, none⟩ = false) : (W.alloc o).frozen? ⟨b, 0, none⟩ = false :=
  (((Below.refl _ W).alloc (Nat.le_refl _) o).frozen (p := ⟨b, 0, none⟩) (World.block_lt_of_cell? W _ h)).trans hf

end Go.Proofs.Ytpldhdidobggdaa
