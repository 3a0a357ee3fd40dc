/- Contracts of spec's LeastOn, MostOn, FurtherOk, PinnedOk, LeastBrings. Conditions: rows that read as lists. -/
import Derived.Test.YtodmgcbcacblbaaMe
import Derived.Test.YtodmgcbcacblbaaBo
namespace Go.Proofs.Ytodmgcbcacblbaa
open Go.RowKit
set_option linter.unusedVariables false

/-! what is handed back -/

def leastB (n : Int) (qs : List Qt) (e : Int) : Int := if bokB n qs = true ∧ evB n e = true then leastI n.toNat qs e else -1

def mostB (n : Int) (qs : List Qt) (e : Int) : Int := if bokB n qs = true ∧ evB n e = true then mostI n.toNat qs e else -1

def furB (n : Int) (qs : List Qt) (q : Qt) : Bool := bokB n qs && (qokB n q && (lay n.toNat 36).any fun l => fitI (natL l) qs && fitI (natL l) [q])

def pinnedB (n : Int) (qs : List Qt) (e : Int) : Bool := decide (0 ≤ leastB n qs e) && decide (leastB n qs e = mostB n qs e)

def lbV (n : Int) (qs : List Qt) (g : List Int) : Bool := bokB n qs && (gokB g && decide ((g.length : Int) = n))

def lbP (n : Int) (qs : List Qt) (g : List Int) : Int × Bool := if lbV n qs g = true then leastBr n.toNat qs g else (0, false)

theorem leastB_yes {n : Nat} {qs : List Qt} {e : Int} (h : bokB (n : Int) qs = true) (k : evB (n : Int) e = true) : leastB n qs e = leastI n qs e := by rw [leastB, if_pos ⟨h, k⟩, Int.toNat_natCast]

theorem mostB_yes {n : Nat} {qs : List Qt} {e : Int} (h : bokB (n : Int) qs = true) (k : evB (n : Int) e = true) : mostB n qs e = mostI n qs e := by rw [mostB, if_pos ⟨h, k⟩, Int.toNat_natCast]

theorem leastB_no {n : Int} {qs : List Qt} {e : Int} (h : ¬ (bokB n qs = true ∧ evB n e = true)) : leastB n qs e = -1 := by rw [leastB, if_neg h]

theorem mostB_no {n : Int} {qs : List Qt} {e : Int} (h : ¬ (bokB n qs = true ∧ evB n e = true)) : mostB n qs e = -1 := by rw [mostB, if_neg h]

theorem lb_no {n : Int} {qs : List Qt} {g : List Int} (h : lbV n qs g = false) : lbP n qs g = (0, false) := by rw [lbP, h]; rfl

theorem lb_yes {n : Nat} {qs : List Qt} {g : List Int} (h : lbV (n : Int) qs g = true) : lbP n qs g = leastBr n qs g := by rw [lbP, if_pos h, Int.toNat_natCast]

/-! folds over the measures, one by one -/

def foldTo {β : Type} (F : β → List Nat → β) (b : β) (m d : Nat) : β := ((lay m 36).take d).foldl F b

theorem foldTo_zero {β : Type} (F : β → List Nat → β) (b : β) (m : Nat) : foldTo F b m 0 = b := by simp [foldTo]

theorem foldTo_succ {β : Type} (F : β → List Nat → β) (b : β) {m d : Nat} {l : List Nat} (h : (lay m 36)[d]? = some l) : foldTo F b m (d + 1) = F (foldTo F b m d) l := by
  rw [foldTo, foldTo, List.take_add_one, h, List.foldl_append]
  rfl

theorem foldTo_all {β : Type} (F : β → List Nat → β) (b : β) {m d : Nat} (h : (lay m 36).length ≤ d) : foldTo F b m d = (lay m 36).foldl F b := by
  rw [foldTo, List.take_of_length_le h]

theorem leastF_no {qs : List Qt} {f : List Nat → Int} {b : Int} {l : List Nat} (h : fitI (natL l) qs = false) : leastF qs f b l = b := by rw [leastF, h]; rfl

theorem leastF_neg {qs : List Qt} {f : List Nat → Int} {b : Int} {l : List Nat} (h : fitI (natL l) qs = true) (hb : b < 0) : leastF qs f b l = f l := by rw [leastF, h, decide_eq_true hb]; rfl

theorem leastF_less {qs : List Qt} {f : List Nat → Int} {b : Int} {l : List Nat} (h : fitI (natL l) qs = true) (hb : ¬ b < 0) (hf : f l < b) : leastF qs f b l = f l := by rw [leastF, h, decide_eq_false hb, decide_eq_true hf]; rfl

theorem leastF_more {qs : List Qt} {f : List Nat → Int} {b : Int} {l : List Nat} (h : fitI (natL l) qs = true) (hb : ¬ b < 0) (hf : ¬ f l < b) : leastF qs f b l = b := by rw [leastF, h, decide_eq_false hb, decide_eq_false hf]; rfl

theorem mostF_no {qs : List Qt} {f : List Nat → Int} {b : Int} {l : List Nat} (h : fitI (natL l) qs = false) : mostF qs f b l = b := by rw [mostF, h]; rfl

theorem mostF_up {qs : List Qt} {f : List Nat → Int} {b : Int} {l : List Nat} (h : fitI (natL l) qs = true) (hb : b < f l) : mostF qs f b l = f l := by rw [mostF, if_pos h]; omega

theorem mostF_down {qs : List Qt} {f : List Nat → Int} {b : Int} {l : List Nat} (h : fitI (natL l) qs = true) (hb : ¬ b < f l) : mostF qs f b l = b := by rw [mostF, if_pos h]; omega

theorem lbF_no {qs : List Qt} {g : List Int} {s : Int × Bool} {l : List Nat} (h : fitI (natL l) qs = false) : leastBF qs g s l = s := by rw [leastBF, h]; rfl

theorem lbF_first {qs : List Qt} {g : List Int} {x : Int} {l : List Nat} (h : fitI (natL l) qs = true) : leastBF qs g (x, false) l = (brI (natL l) g, true) := by rw [leastBF, h]; rfl

theorem lbF_less {qs : List Qt} {g : List Int} {x : Int} {l : List Nat} (h : fitI (natL l) qs = true) (hf : brI (natL l) g < x) : leastBF qs g (x, true) l = (brI (natL l) g, true) := by rw [leastBF, h, decide_eq_true hf]; rfl

theorem lbF_more {qs : List Qt} {g : List Int} {x : Int} {l : List Nat} (h : fitI (natL l) qs = true) (hf : ¬ brI (natL l) g < x) : leastBF qs g (x, true) l = (x, true) := by rw [leastBF, h, decide_eq_false hf]; rfl

theorem fur_at {n : Nat} {qs : List Qt} {q : Qt} (h : bokB (n : Int) qs = true) (k : qokB (n : Int) q = true) {d : Nat} {l : List Nat} (hd : (lay n 36)[d]? = some l) (h1 : fitI (natL l) qs = true) (h2 : fitI (natL l) [q] = true) : furB n qs q = true := by
  rw [furB, h, k, Int.toNat_natCast, Bool.true_and, Bool.true_and, List.any_eq_true]
  exact ⟨l, List.mem_of_getElem? hd, by rw [h1, h2]; rfl⟩

theorem fur_none {n : Nat} {qs : List Qt} {q : Qt} (h : bokB (n : Int) qs = true) (k : qokB (n : Int) q = true) (hno : ∀ j, j < (lay n 36).length → ∀ x, (lay n 36)[j]? = some x → (fitI (natL x) qs && fitI (natL x) [q]) = false) : furB n qs q = false := by
  rw [furB, h, k, Int.toNat_natCast, Bool.true_and, Bool.true_and, List.any_eq_false]
  intro x hx
  obtain ⟨j, hj, e⟩ := List.getElem_of_mem hx
  have := hno j hj x (by rw [← e]; exact List.getElem?_eq_getElem hj)
  rw [this]; simp

theorem one_rd (w : World) (a b : Int) : QRd (w.alloc (.cells #[.int .i64 a, .int .i64 b] 37)) (.slice (some ⟨w.heap.size, 0, none⟩) 1 1) [(a, b)] :=
  GOwn.rd (base := w.heap.size) (fun _ => rfl) (show QOwn _ _ _ [(a, b)] from World.ownsRow_lit w #[.int .i64 a, .int .i64 b] 1 (Nat.le_refl _) (by unfold maxLen; omega) rfl)

end Go.Proofs.Ytodmgcbcacblbaa
