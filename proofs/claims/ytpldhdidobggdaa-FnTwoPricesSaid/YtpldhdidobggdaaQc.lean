/- spec.GainOf. Conditions: none. -/
import Derived.Test.YtpldhdidobggdaaQb
namespace Go.Proofs.Ytpldhdidobggdaa
open Go.RowKit
set_option linter.unusedVariables false

theorem AppRel.keep {w wr w' : World} {zs : List Int} {k : Nat} {p : Value} (h : AppRel w zs k p wr) (hb : Below wr.heap.size wr w') : AppRel w zs k p w' :=
  ⟨h.1.keep (SameAt.of_below hb), below_step h.2 hb h.2.size⟩

theorem inB_stB (s : Int) : inB s (-9) 9 = stB s := rfl

theorem app_start' (W : World) (o : Obj) (zs : List Int) : AppRel (W.alloc o) zs 0 (.slice (some ⟨W.heap.size + 1, 0, none⟩) 0 0) ((W.alloc o).alloc (.cells #[] 3)) := by
  have h := app_start (W.alloc o) zs
  rw [show (W.alloc o).heap.size = W.heap.size + 1 from by simp] at h
  exact h

theorem lit_own' (W : World) (o : Obj) : IOwn ((W.alloc o).alloc (.cells #[] 3)) W.heap.size (.slice (some ⟨W.heap.size + 1, 0, none⟩) 0 0) [] := by
  have h := lit_own (W.alloc o) W.heap.size (by simp)
  rw [show (W.alloc o).heap.size = W.heap.size + 1 from by simp] at h
  exact h

end Go.Proofs.Ytpldhdidobggdaa
