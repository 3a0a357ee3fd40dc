/- The walk of the law of WagerOk. Conditions: stated. (gen_zu.py) -/
import Derived.Test.YtfdlfgokoponmaaDoorZs
import Derived.Test.YtfdlfgokoponmaaDoorZp
namespace Go.Proofs.YtfdlfgokoponmaaDoor
open Go.RowKit
set_option linter.unusedVariables false
set_option linter.unusedSimpArgs false

theorem wbox {W wr : World} {x y z : Value} {t : TypeId} (h : Below (W.alloc (.cells #[x, y, z] t)).heap.size (W.alloc (.cells #[x, y, z] t)) wr) : Blk wr W.heap.size t #[x, y, z] :=
  (h.block W.heap.size (by simp)).trans (heap_alloc_new W _)

theorem wgB_neg (s : Int) (t : List Mk) (p : Int) : wgB (-s) t p = wgB s t p := by
  refine bool_eq ?_
  rw [wgB_iff, wgB_iff]
  constructor <;> rintro ⟨h1, h2, h3⟩ <;> exact ⟨by omega, h2, h3⟩

theorem wgB_none {s : Int} {t : List Mk} {p : Int} (h : wgB s t p = true) : wgB 0 t p = true := by
  rw [wgB_iff] at h ⊢
  exact ⟨by omega, h.2.1, h.2.2⟩

theorem wgB_zero : wgB 0 [] 0 = false := by
  rw [wgB, tm_letters.2.2]; decide

/-- what is known of the wager that was drawn while the law goes on -/
def WK (w : World) (b : Nat) (s : Int) (v : Value) (p : Int) (t : List Mk) (wk : World) : Prop := Below w.heap.size w wk ∧ Blk wk b 25 #[.int .i64 s, v, .int .i64 p] ∧ MOwn wk w.heap.size v t

theorem WK.below {w : World} {b : Nat} {s : Int} {v : Value} {p : Int} {t : List Mk} {wk w' : World} (h : WK w b s v p t wk) (hb : Below wk.heap.size wk w') : WK w b s v p t w' :=
  ⟨below_step h.1 hb h.1.size, (hb.block _ h.2.1.lt).trans h.2.1, h.2.2.keep (SameAt.of_below hb)⟩

theorem WK.alloc {w : World} {b : Nat} {s : Int} {v : Value} {p : Int} {t : List Mk} {wk : World} (h : WK w b s v p t wk) (o : Obj) : WK w b s v p t (wk.alloc o) := h.below ((Below.refl _ _).alloc (Nat.le_refl _) _)

theorem qrd_nil (w : World) : QRd w (.slice none 0 0) [] := ⟨none, 0, rfl, Nat.le_refl _, by omega, fun h => absurd h (by simp)⟩

end Go.Proofs.YtfdlfgokoponmaaDoor
