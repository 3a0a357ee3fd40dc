/- What the program's machine of marks is given: partsOfMark, eventOfMark, phraseOfMark. Conditions: stated. (gen_xpc.py) -/
import Derived.Test.YtfdlfgokoponmaaDoorXo
import Derived.Test.YtfdlfgokoponmaaDoorRh
namespace Go.Proofs.YtfdlfgokoponmaaDoor
open Go.RowKit
set_option linter.unusedVariables false
set_option linter.unusedSimpArgs false

theorem mbox {W wr : World} {x y : Value} {t : TypeId} (h : Below (W.alloc (.cells #[x, y] t)).heap.size (W.alloc (.cells #[x, y] t)) wr) : Blk wr W.heap.size t #[x, y] :=
  (h.block W.heap.size (by simp)).trans (heap_alloc_new W _)

theorem set_two {w : World} {g : Nat} {t : TypeId} {x y : Value} (h : Blk w g t #[x, y]) (u v : Value) :
    ((w.setCell ⟨g, 0, none⟩ u).setCell ⟨g, 1, none⟩ v).cell? ⟨g, 0, none⟩ = some u ∧ ((w.setCell ⟨g, 0, none⟩ u).setCell ⟨g, 1, none⟩ v).cell? ⟨g, 1, none⟩ = some v := by
  have BB := (h.set_ 0 u).set_ 1 v
  exact ⟨BB.cell 0, BB.cell 1⟩

/-- how many parts a mark takes -/
def PtPost (n : Int) (b : Bool) (w : World) (e : Ending) (w' : World) : Prop := e = .returned (.tuple #[.int .i64 n, .bool b]) ∧ Below w.heap.size w w'

set_option maxHeartbeats 1000000 in
theorem parts_a (w : World) : Calls Tryd.prog 64 #[.agg #[.int .i64 0, .int .i64 0]] w (PtPost 0 true w) := by
  go_enter Tryd.func64, Tryd.ntmps64
  go_wp2
  all_goals first
    | (go_ret2; exact ⟨rfl, by go_grown⟩)
    | (exfalso; simp_all; done)

set_option maxHeartbeats 1000000 in
theorem parts_b (w : World) : Calls Tryd.prog 64 #[.agg #[.int .i64 0, .int .i64 1]] w (PtPost 0 true w) := by
  go_enter Tryd.func64, Tryd.ntmps64
  go_wp2
  all_goals first
    | (go_ret2; exact ⟨rfl, by go_grown⟩)
    | (exfalso; simp_all; done)

set_option maxHeartbeats 1000000 in
theorem parts_no (w : World) : Calls Tryd.prog 64 #[.agg #[.int .i64 1, .int .i64 0]] w (PtPost 1 true w) := by
  go_enter Tryd.func64, Tryd.ntmps64
  go_wp2
  all_goals first
    | (go_ret2; exact ⟨rfl, by go_grown⟩)
    | (exfalso; simp_all; done)

set_option maxHeartbeats 1000000 in
theorem parts_an (w : World) : Calls Tryd.prog 64 #[.agg #[.int .i64 2, .int .i64 0]] w (PtPost 2 true w) := by
  go_enter Tryd.func64, Tryd.ntmps64
  go_wp2
  all_goals first
    | (go_ret2; exact ⟨rfl, by go_grown⟩)
    | (exfalso; simp_all; done)

set_option maxHeartbeats 1000000 in
theorem parts_vel (w : World) : Calls Tryd.prog 64 #[.agg #[.int .i64 3, .int .i64 0]] w (PtPost 2 true w) := by
  go_enter Tryd.func64, Tryd.ntmps64
  go_wp2
  all_goals first
    | (go_ret2; exact ⟨rfl, by go_grown⟩)
    | (exfalso; simp_all; done)

set_option maxHeartbeats 1000000 in
theorem parts_else (k a : Int) (h1 : ¬ (k = 0 ∧ a = 0)) (h2 : ¬ (k = 0 ∧ a = 1)) (h3 : ¬ (k = 1 ∧ a = 0)) (h4 : ¬ (k = 2 ∧ a = 0)) (h5 : ¬ (k = 3 ∧ a = 0)) (w : World) :
    Calls Tryd.prog 64 #[.agg #[.int .i64 k, .int .i64 a]] w (PtPost 0 false w) := by
  have h1' : (k == 0 && a == 0) = false := by simpa [Bool.eq_false_iff] using h1
  have h2' : (k == 0 && a == 1) = false := by simpa [Bool.eq_false_iff] using h2
  have h3' : (k == 1 && a == 0) = false := by simpa [Bool.eq_false_iff] using h3
  have h4' : (k == 2 && a == 0) = false := by simpa [Bool.eq_false_iff] using h4
  have h5' : (k == 3 && a == 0) = false := by simpa [Bool.eq_false_iff] using h5
  clear h1 h2 h3 h4 h5
  go_enter Tryd.func64, Tryd.ntmps64
  go_wp2
  all_goals first
    | (go_ret2; exact ⟨rfl, by go_grown⟩)
    | (exfalso; simp_all; done)

theorem hasq_tab : ∀ e : Fin 16, ∀ a : Fin 4, (bits BinOp.and IntKind.i64 (((e : Nat) : Int) / 2 ^ (a : Nat)) 1 == 1) = (bitI ((e : Nat) : Int) (a : Nat) == 1) := by decide +kernel

def pE (b : Bool) (k : Nat) : Int := if b = true then (if k < 3 then 0 else if k = 3 then 4 else 12) else (if k < 2 then 0 else if k < 4 then 2 else 10)

theorem not_tree (x : Tm) : notI 4 ((evT x : Nat) : Int) = ((evT (.no x) : Nat) : Int) := by
  have h := evT_16 x
  have he : evB 4 ((evT x : Nat) : Int) = true := (evB_iff _ _).2 ⟨by omega, by omega, by omega, by rw [show allI 4 = 15 from by decide]; omega⟩
  rw [notI, if_pos he, show allI 4 = 15 from by decide, evT]
  omega

end Go.Proofs.YtfdlfgokoponmaaDoor
