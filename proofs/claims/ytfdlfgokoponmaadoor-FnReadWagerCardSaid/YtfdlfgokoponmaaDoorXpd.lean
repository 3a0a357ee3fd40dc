/- The program's phrases: heldFrom, phraseOfMark. Conditions: texts of at most a million bytes. (gen_xpd.py) -/
import Derived.Test.YtfdlfgokoponmaaDoorXpc
namespace Go.Proofs.YtfdlfgokoponmaaDoor
open Go.RowKit
set_option linter.unusedVariables false
set_option linter.unusedSimpArgs false

/-- a phrase as a value -/
def phC (T : Tm) : List Value := [.string ⟨(txtT T).toArray⟩, .int .i64 (lastM T).1]

def phV (T : Tm) : Value := .agg #[.string ⟨(txtT T).toArray⟩, .int .i64 (lastM T).1]

def PhPost (T : Tm) (w : World) (e : Ending) (w' : World) : Prop := e = .returned (phV T) ∧ Below w.heap.size w w'

theorem last_tab (T : Tm) : ((lastM T).1 = 0 ∧ ownT T = 2) ∨ ((lastM T).1 = 1 ∧ ownT T = 2) ∨ ((lastM T).1 = 2 ∧ ownT T = 1) ∨ ((lastM T).1 = 3 ∧ ownT T = 0) := by
  cases T with
  | lt b => exact .inl ⟨rfl, rfl⟩
  | no x => exact .inr (.inl ⟨rfl, rfl⟩)
  | an x y => exact .inr (.inr (.inl ⟨rfl, rfl⟩))
  | vel x y => exact .inr (.inr (.inr ⟨rfl, rfl⟩))

theorem held_no {T : Tm} {b : Nat} (h : ¬ ownT T < b) : heldT b T = txtT T := by rw [heldT, brk, if_neg (by simpa using h)]

theorem held_br {T : Tm} {b : Nat} (h : ownT T < b) : heldT b T = 40 :: (txtT T ++ [41]) := by rw [heldT, brk, if_pos (by simpa using h)]

set_option maxHeartbeats 2000000 in
theorem heldFrom_2 (T : Tm) (hs : (txtT T).length ≤ 1000000) (w : World) :
    Calls Tryd.prog 65 #[.int .i64 2, phV T] w (TxtPost (heldT 2 T) w) := by
  have h1 : ∀ w : World, (Op.stringOp .add ⟨[40].toArray⟩ ⟨(txtT T).toArray⟩).run Tryd.prog w = .ok (.string ⟨(40 :: txtT T).toArray⟩) w := fun w => add_txt [40] _ (by simp; omega) w
  have h2 : ∀ w : World, (Op.stringOp .add ⟨(40 :: txtT T).toArray⟩ ⟨[41].toArray⟩).run Tryd.prog w = .ok (.string ⟨(40 :: (txtT T ++ [41])).toArray⟩) w := fun w => add_txt (40 :: txtT T) [41] (by simp; omega) w
  have HB : Hid (Below w.heap.size w (w.alloc (.cells #[.string ⟨(txtT T).toArray⟩, .int .i64 (lastM T).1] 72))) := Lib.hid ((Below.refl _ w).alloc (Nat.le_refl _) _)
  unfold phV
  rcases last_tab T with ⟨hk, ho⟩ | ⟨hk, ho⟩ | ⟨hk, ho⟩ | ⟨hk, ho⟩
  · have HH := Lib.hid (held_no (b := 2) (T := T) (by omega))
    rw [hk] at HB ⊢
    clear hk ho
    go_enter Tryd.func65, Tryd.ntmps65
    go_wp2_with fail
    go_ret
    exact ⟨ret_txt HH.out.symm, HB.out⟩
  · have HH := Lib.hid (held_no (b := 2) (T := T) (by omega))
    rw [hk] at HB ⊢
    clear hk ho
    go_enter Tryd.func65, Tryd.ntmps65
    go_wp2_with fail
    go_ret
    exact ⟨ret_txt HH.out.symm, HB.out⟩
  · have HH := Lib.hid (held_br (b := 2) (T := T) (by omega))
    rw [hk] at HB ⊢
    clear hk ho
    go_enter Tryd.func65, Tryd.ntmps65
    go_wp2_with fail
    go_ret
    exact ⟨ret_txt HH.out.symm, HB.out⟩
  · have HH := Lib.hid (held_br (b := 2) (T := T) (by omega))
    rw [hk] at HB ⊢
    clear hk ho
    go_enter Tryd.func65, Tryd.ntmps65
    go_wp2_with fail
    go_ret
    exact ⟨ret_txt HH.out.symm, HB.out⟩

set_option maxHeartbeats 2000000 in
theorem heldFrom_3 (T : Tm) (hs : (txtT T).length ≤ 1000000) (w : World) :
    Calls Tryd.prog 65 #[.int .i64 3, phV T] w (TxtPost (heldT 1 T) w) := by
  have h1 : ∀ w : World, (Op.stringOp .add ⟨[40].toArray⟩ ⟨(txtT T).toArray⟩).run Tryd.prog w = .ok (.string ⟨(40 :: txtT T).toArray⟩) w := fun w => add_txt [40] _ (by simp; omega) w
  have h2 : ∀ w : World, (Op.stringOp .add ⟨(40 :: txtT T).toArray⟩ ⟨[41].toArray⟩).run Tryd.prog w = .ok (.string ⟨(40 :: (txtT T ++ [41])).toArray⟩) w := fun w => add_txt (40 :: txtT T) [41] (by simp; omega) w
  have HB : Hid (Below w.heap.size w (w.alloc (.cells #[.string ⟨(txtT T).toArray⟩, .int .i64 (lastM T).1] 72))) := Lib.hid ((Below.refl _ w).alloc (Nat.le_refl _) _)
  unfold phV
  rcases last_tab T with ⟨hk, ho⟩ | ⟨hk, ho⟩ | ⟨hk, ho⟩ | ⟨hk, ho⟩
  · have HH := Lib.hid (held_no (b := 1) (T := T) (by omega))
    rw [hk] at HB ⊢
    clear hk ho
    go_enter Tryd.func65, Tryd.ntmps65
    go_wp2_with fail
    go_ret
    exact ⟨ret_txt HH.out.symm, HB.out⟩
  · have HH := Lib.hid (held_no (b := 1) (T := T) (by omega))
    rw [hk] at HB ⊢
    clear hk ho
    go_enter Tryd.func65, Tryd.ntmps65
    go_wp2_with fail
    go_ret
    exact ⟨ret_txt HH.out.symm, HB.out⟩
  · have HH := Lib.hid (held_no (b := 1) (T := T) (by omega))
    rw [hk] at HB ⊢
    clear hk ho
    go_enter Tryd.func65, Tryd.ntmps65
    go_wp2_with fail
    go_ret
    exact ⟨ret_txt HH.out.symm, HB.out⟩
  · have HH := Lib.hid (held_br (b := 1) (T := T) (by omega))
    rw [hk] at HB ⊢
    clear hk ho
    go_enter Tryd.func65, Tryd.ntmps65
    go_wp2_with fail
    go_ret
    exact ⟨ret_txt HH.out.symm, HB.out⟩

set_option maxHeartbeats 2000000 in
theorem ph_letter (b : Bool) (w : World) (v : Value) :
    Calls Tryd.prog 48 #[.agg #[.int .i64 0, .int .i64 (letM b).2], v] w (PhPost (.lt b) w) := by
  cases b
  all_goals
    simp only [letM]
    go_enter Tryd.func48, Tryd.ntmps48
    go_wp2_with fail
    go_returns
    exact ⟨rfl, by go_grown⟩

theorem two_boxes {W w3 : World} {a b c d : Value} {t u : TypeId} (h : Below ((W.alloc (.cells #[a, b] t)).alloc (.cells #[c, d] u)).heap.size ((W.alloc (.cells #[a, b] t)).alloc (.cells #[c, d] u)) w3) :
    Blk w3 W.heap.size t #[a, b] ∧ Blk w3 (W.heap.size + 1) u #[c, d] := by
  constructor
  · exact (h.block W.heap.size (by simp; omega)).trans ((Below.heap_alloc _ _ _ (by simp)).trans (heap_alloc_new W _))
  · exact (h.block (W.heap.size + 1) (by simp)).trans (by rw [← World.size_alloc W (.cells #[a, b] t)]; exact heap_alloc_new _ _)

theorem old_cell {W : World} {o1 o2 : Obj} {g k : Nat} {v : Value} (h : W.cell? ⟨g, k, none⟩ = some v) : ((W.alloc o1).alloc o2).cell? ⟨g, k, none⟩ = some v := by
  have hlt := World.block_lt_of_cell? W _ h
  refine (World.cell?_of_block (a := ⟨g, k, none⟩) (Below.heap_alloc _ _ _ ?_)).trans ((World.cell?_of_block (a := ⟨g, k, none⟩) (Below.heap_alloc W _ _ hlt)).trans h)
  rw [World.size_alloc]; exact Nat.lt_succ_of_lt hlt

set_option maxRecDepth 100000 in
set_option maxHeartbeats 4000000 in
theorem ph_no (x : Tm) (hs : (txtT (.no x)).length ≤ 900000) (w : World) (g o n c : Nat) (hn : 1 ≤ n) (hc : w.cell? ⟨g, o, none⟩ = some (.string ⟨(txtT x).toArray⟩)) (hc2 : w.cell? ⟨g, o + 1, none⟩ = some (.int .i64 (lastM x).1)) :
    Calls Tryd.prog 48 #[.agg #[.int .i64 1, .int .i64 0], .slice (some ⟨g, o, none⟩) n c] w (PhPost (.no x) w) := by
  have hn' : (0 : Int) < (n : Int) := by omega
  have hd1 := old_cell (o1 := .cells #[.int .i64 1, .int .i64 0] 59) (o2 := .cells #[.string ⟨#[]⟩, .int .i64 0] 72) hc
  have hd2 := old_cell (o1 := .cells #[.int .i64 1, .int .i64 0] 59) (o2 := .cells #[.string ⟨#[]⟩, .int .i64 0] 72) hc2
  have htx : txtT (.no x) = 33 :: heldT 2 x := rfl
  have hl : (heldT 2 x).length + 1 ≤ 900000 := by rw [htx, List.length_cons] at hs; exact hs
  have h1 : ∀ w : World, (Op.stringOp .add ⟨[33].toArray⟩ ⟨(heldT 2 x).toArray⟩).run Tryd.prog w = .ok (.string ⟨(txtT (.no x)).toArray⟩) w := fun w => add_txt [33] _ (by simp; omega) w
  have HS : Hid ((txtT x).length ≤ 1000000) := Lib.hid (by have := brk_ge (decide (ownT x < 2)) (txtT x); have h9 : (heldT 2 x).length = (brk (decide (ownT x < 2)) (txtT x)).length := rfl; omega)
  have HB : Hid (Below w.heap.size w ((w.alloc (.cells #[.int .i64 1, .int .i64 0] 59)).alloc (.cells #[.string ⟨#[]⟩, .int .i64 0] 72))) := Lib.hid (((Below.refl _ w).alloc (Nat.le_refl _) _).alloc (by simp) _)
  clear hc hc2 htx hl hs
  go_enter Tryd.func48, Tryd.ntmps48
  go_wp2_with fail
  refine (heldFrom_2 x HS.out _).mono ?_
  rintro r w3 ⟨rfl, b3⟩
  have HT := Lib.hid (two_boxes b3)
  have HB3 : Hid (Below w.heap.size w w3) := Lib.hid (below_step HB.out b3 HB.out.size)
  clear b3 hd1 hd2
  have hm0 : w3.cell? ⟨w.heap.size, 0, none⟩ = some (.int .i64 1) := HT.out.1.cell 0
  have hc0 : w3.cell? ⟨w.heap.size + 1, 0, none⟩ = some (.string ⟨#[]⟩) := HT.out.2.cell 0
  have hc1 : w3.cell? ⟨w.heap.size + 1, 1, none⟩ = some (.int .i64 0) := HT.out.2.cell 1
  have hf0 : w3.frozen? ⟨w.heap.size + 1, 0, none⟩ = false := HT.out.2.frozen 0
  have hf1 : w3.frozen? ⟨w.heap.size + 1, 1, none⟩ = false := HT.out.2.frozen 1
  have HR := Lib.hid (set_two HT.out.2 (.string ⟨(txtT (.no x)).toArray⟩) (.int .i64 1))
  go_wp2_with fail
  obtain ⟨hr0, hr1⟩ := HR.out
  refine bodyPost_ret (v := .agg #[.string ⟨(txtT (.no x)).toArray⟩, .int .i64 1]) (by simp [results, Tryd.results48, go_sem, hr0, hr1]) rfl ?_
  exact ⟨rfl, (HB3.out.setCell (by simp) _).setCell (by simp) _⟩

end Go.Proofs.YtfdlfgokoponmaaDoor
