/- Contracts of the program's fitting, CountMeasures. Conditions: a row of quotes that reads as a list. Contracts of the program's FirstMeasure, FairOk. Conditions: a row of quotes that reads as a list. Contract of the program's FairOk. Conditions: a row of quotes that reads as a list. -/
import Derived.Test.YtnkgnhnggjoglaaNg
import Derived.Test.YtnkgnhnggjoglaaMg
namespace Go.Proofs.Ytnkgnhnggjoglaa
open Go.RowKit Go.Shelf
set_option linter.unusedVariables false
attribute [local go_sem] Oper.semAt_some

theorem count_all {m : Nat} {qs : List Qt} (h : bokB (m : Int) qs = true) : countI m qs = ((fitAll m qs).length : Nat) := by
  rw [countI, if_pos h, Int.toNat_natCast, fitAll, List.length_map]; rfl

theorem pre_len {m : Nat} {qs : List Qt} {pre : List (List Int)} {x : List Int} (m1 : 1 ≤ m) (m4 : m ≤ 4) (h : (pre ++ [x]) <+: fitAll m qs) : pre.length ≤ 9139 := by
  have h1 := h.length_le
  have h2 := count_le m1 m4 qs
  have h3 : (fitAll m qs).length = countFit m qs := by rw [fitAll, List.length_map]; rfl
  simp at h1
  omega

/-- what holds between two rounds of the count -/
def CntI (w : World) (C : Nat) (pre : List (List Int)) (A : World) : Prop := A.cell? ⟨C, 0, none⟩ = some (.int .i64 (pre.length : Nat)) ∧ A.frozen? ⟨C, 0, none⟩ = false ∧ Below w.heap.size w A

theorem cnt_stays {w : World} {C B : Nat} (hC : C < B) (hB : w.heap.size ≤ B) : Stays B (CntI w C) := by
  rintro pre A A' ⟨h1, h2, h3⟩ hb
  exact ⟨(hb.cell (p := ⟨C, 0, none⟩) hC).trans h1, (hb.frozen (p := ⟨C, 0, none⟩) hC).trans h2, h3.trans (hb.mono hB)⟩

theorem kept_set (C : Nat) (A : World) (u : Value) : KeptBut C C A (A.setCell ⟨C, 0, none⟩ u) :=
  ⟨by simp [World.setCell], fun k _ hk _ => Below.heap_setCell A ⟨C, 0, none⟩ u k hk⟩

theorem new_cell (W : World) (v : Value) (t : TypeId) : (W.alloc (.cells #[v] t)).cell? ⟨W.heap.size, 0, none⟩ = some v ∧ (W.alloc (.cells #[v] t)).frozen? ⟨W.heap.size, 0, none⟩ = false := ⟨by simp, by simp⟩

theorem old_cell {W : World} {b : Nat} {v : Value} (o : Obj) (h : W.cell? ⟨b, 0, none⟩ = some v) : (W.alloc o).cell? ⟨b, 0, none⟩ = some v :=
  (((Below.refl _ W).alloc (Nat.le_refl _) o).cell (p := ⟨b, 0, none⟩) (World.block_lt_of_cell? W _ h)).trans h

theorem old_frz {W : World} {b : Nat} {v : Value} (o : Obj) (h : W.cell? ⟨b, 0, none⟩ = some v) (hf : W.frozen? ⟨b, 0, none⟩ = false) : (W.alloc o).frozen? ⟨b, 0, none⟩ = false :=
  (((Below.refl _ W).alloc (Nat.le_refl _) o).frozen (p := ⟨b, 0, none⟩) (World.block_lt_of_cell? W _ h)).trans hf

end Go.Proofs.Ytnkgnhnggjoglaa

namespace Go.Proofs.Ytnkgnhnggjoglaa
open Go.RowKit Go.Shelf
set_option linter.unusedVariables false
attribute [local go_sem] Oper.semAt_some

theorem first_head {m : Nat} {qs : List Qt} {x : List Int} (h : [x] <+: fitAll m qs) : ∃ l, firstFit m qs = some l ∧ x = natL l := by
  obtain ⟨r, hr⟩ := h
  have h1 : (fitAll m qs).head? = some x := by rw [← hr]; rfl
  rw [fitAll, List.head?_map, List.head?_filter] at h1
  cases hf : (lay m 36).find? (fun l => fitI (natL l) qs) with
  | none => rw [hf] at h1; cases h1
  | some l => rw [hf] at h1; exact ⟨l, hf, (Option.some.inj h1).symm⟩

theorem first_empty {m : Nat} {qs : List Qt} (h : fitAll m qs = []) : firstFit m qs = none := by
  have h1 : (fitAll m qs).head? = none := by rw [h]; rfl
  rw [fitAll, List.head?_map, List.head?_filter] at h1
  cases hf : (lay m 36).find? (fun l => fitI (natL l) qs) with
  | none => exact hf
  | some l => rw [hf] at h1; cases h1

theorem first_is {n : Nat} {qs : List Qt} (h : bokB (n : Int) qs = true) {x : List Int} (hx : [x] <+: fitAll n qs) : firstB n qs = true ∧ firstR n qs = x := by
  obtain ⟨l, h1, rfl⟩ := first_head hx
  rw [firstB, firstR, h, Int.toNat_natCast, h1]
  exact ⟨rfl, rfl⟩

theorem first_isnt {n : Nat} {qs : List Qt} (h : bokB (n : Int) qs = true) (hx : fitAll n qs = []) : firstB n qs = false ∧ firstR n qs = [] := by
  rw [firstB, firstR, h, Int.toNat_natCast, first_empty hx]
  exact ⟨rfl, rfl⟩

/-- the two variables that hold the results -/
def ResI (w : World) (x : Value) (t : Bool) (A : World) : Prop := A.cell? ⟨w.heap.size, 0, none⟩ = some x ∧ A.cell? ⟨w.heap.size + 1, 0, none⟩ = some (.bool t) ∧ A.frozen? ⟨w.heap.size, 0, none⟩ = false ∧ A.frozen? ⟨w.heap.size + 1, 0, none⟩ = false ∧ Below w.heap.size w A

/-- nothing has come -/
def FirI (w : World) (pre : List (List Int)) (A : World) : Prop := pre = [] ∧ ResI w (.slice none 0 0) false A

/-- the first has come: the body has returned it -/
def FirX (w : World) (c : Code) (pre : List (List Int)) (A : World) : Prop := c = .ret ∧ ∃ x v, pre = [x] ∧ ResI w v true A ∧ IOwn A w.heap.size v x

theorem res_below {w A A' : World} {x : Value} {t : Bool} {B : Nat} (h : ResI w x t A) (hb : Below B A A') (hB : w.heap.size + 2 ≤ B) : ResI w x t A' := by
  obtain ⟨h1, h2, h3, h4, h5⟩ := h
  exact ⟨(hb.cell (p := ⟨w.heap.size, 0, none⟩) (show w.heap.size < B by omega)).trans h1, (hb.cell (p := ⟨w.heap.size + 1, 0, none⟩) (show w.heap.size + 1 < B by omega)).trans h2, (hb.frozen (p := ⟨w.heap.size, 0, none⟩) (show w.heap.size < B by omega)).trans h3, (hb.frozen (p := ⟨w.heap.size + 1, 0, none⟩) (show w.heap.size + 1 < B by omega)).trans h4, h5.trans (hb.mono (by omega))⟩

theorem fir_stays {w : World} {B : Nat} (hB : w.heap.size + 2 ≤ B) : Stays B (FirI w) := by
  rintro pre A A' ⟨h1, h2⟩ hb
  exact ⟨h1, res_below h2 hb hB⟩

/-- a row of ints lies in cells -/
theorem own_cells {A : World} {base g : Nat} {v : Value} {x : List Int} (h : IOwn A base v x) (hg : v.ownBlock = some g) : ∃ o, A.heap[g]? = some o ∧ o.isCells = true := by
  rcases h.2 with ⟨rfl, h0⟩ | ⟨g', cap, cur, rfl, hlt, hh, -⟩
  · cases hg
  · obtain rfl : g' = g := Option.some.inj hg
    exact ⟨_, hh, rfl⟩

theorem own_putc {A : World} {base l : Nat} {v : Value} {x : List Int} {o : Obj} (o' : Obj) (h : IOwn A base v x) (hl : A.heap[l]? = some o) (ho : o.isCells = false) : IOwn (A.putObj l o') base v x :=
  h.keep ⟨by simp, fun g hg hlt => World.putObj_heap_other (by
    intro e; subst e
    obtain ⟨o2, h1, h2⟩ := own_cells h hg
    rw [hl] at h1
    obtain rfl := Option.some.inj h1
    rw [ho] at h2; cases h2)⟩

theorem fir_put {w A : World} {c : Code} {pre : List (List Int)} {l : Nat} {o : Obj} (o' : Obj) (h : FirX w c pre A) (hl : w.heap.size + 2 ≤ l) (ho : A.heap[l]? = some o) (hc : o.isCells = false) : FirX w c pre (A.putObj l o') := by
  obtain ⟨h1, x, v, h2, h3, h4⟩ := h
  exact ⟨h1, x, v, h2, res_below h3 (below_put o' (Array.getElem?_eq_some_iff.1 ho).1 (Nat.le_refl _)) hl, own_putc o' h4 ho hc⟩

theorem ofs_cell {W : World} {b : Nat} {v : Value} {u : Value} {b' : Nat} (h : W.cell? ⟨b, 0, none⟩ = some v) (hne : b ≠ b') : (W.setCell ⟨b', 0, none⟩ u).cell? ⟨b, 0, none⟩ = some v :=
  (World.cell?_of_block (w := W) (Below.heap_setCell W ⟨b', 0, none⟩ u b hne)).trans h

theorem own_slice {A : World} {base : Nat} {v : Value} {x : List Int} (h : IOwn A base v x) : ∃ a n c, v = .slice a n c := by
  rcases h.2 with ⟨rfl, h0⟩ | ⟨g', cap, cur, rfl, hlt, hh, -⟩
  · exact ⟨_, _, _, rfl⟩
  · exact ⟨_, _, _, rfl⟩

theorem own_far2 {A : World} {base b1 b2 B : Nat} {v y z : Value} {x : List Int} (h : IOwn A base v x) (h1 : b1 < base ∧ b2 < base) (hB : B ≤ base) : IOwn ((A.setCell ⟨b1, 0, none⟩ y).setCell ⟨b2, 0, none⟩ z) B v x :=
  (h.keep ⟨by simp [World.setCell], fun g hg hlt => by
    have := (h.ge g hg).1
    rw [Below.heap_setCell _ _ _ _ (show g ≠ b2 by omega), Below.heap_setCell _ _ _ _ (show g ≠ b1 by omega)]⟩).base hB

theorem res_set {w A : World} {x : Value} {t : Bool} (h : ResI w x t A) (y : Value) (s : Bool) : ResI w y s ((A.setCell ⟨w.heap.size, 0, none⟩ y).setCell ⟨w.heap.size + 1, 0, none⟩ (.bool s)) := by
  obtain ⟨h1, h2, h3, h4, h5⟩ := h
  have k1 : (A.setCell ⟨w.heap.size, 0, none⟩ y).cell? ⟨w.heap.size, 0, none⟩ = some y := World.cell?_setCell_same' _ _ _ (by rw [h1]; rfl)
  have k2 := ofs_cell (u := y) (b' := w.heap.size) h2 (by omega)
  refine ⟨ofs_cell k1 (by omega), World.cell?_setCell_same' _ _ _ (by rw [k2]; rfl), ?_, ?_, (h5.setCell (p := ⟨w.heap.size, 0, none⟩) (Nat.le_refl _) _).setCell (p := ⟨w.heap.size + 1, 0, none⟩) (Nat.le_succ _) _⟩
  · rw [World.frozen?_setCell, World.frozen?_setCell]; exact h3
  · rw [World.frozen?_setCell, World.frozen?_setCell]; exact h4

end Go.Proofs.Ytnkgnhnggjoglaa

namespace Go.Proofs.Ytnkgnhnggjoglaa
open Go.RowKit
set_option linter.unusedVariables false

theorem first_fair (n : Int) (qs : List Qt) : firstB n qs = fairB n qs := by
  rw [firstB, fairB, first_any]

end Go.Proofs.Ytnkgnhnggjoglaa
