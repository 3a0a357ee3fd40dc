/- The program's phrases of two parts. Conditions: texts of at most a million bytes. (gen_xpd.py) -/
import Derived.Test.YtfdlfgokoponmaaDoorXpd
namespace Go.Proofs.YtfdlfgokoponmaaDoor
open Go.RowKit
set_option linter.unusedVariables false
set_option linter.unusedSimpArgs false

set_option maxRecDepth 100000 in
set_option maxHeartbeats 8000000 in
theorem ph_an (x y : Tm) (hs : (txtT (.an x y)).length ≤ 900000) (w : World) (g o n c : Nat) (hn : 2 ≤ n) (hc : w.cell? ⟨g, o, none⟩ = some (.string ⟨(txtT x).toArray⟩)) (hc2 : w.cell? ⟨g, o + 1, none⟩ = some (.int .i64 (lastM x).1)) (hc3 : w.cell? ⟨g, o + 2, none⟩ = some (.string ⟨(txtT y).toArray⟩)) (hc4 : w.cell? ⟨g, o + 3, none⟩ = some (.int .i64 (lastM y).1)) :
    Calls Tryd.prog 48 #[.agg #[.int .i64 2, .int .i64 0], .slice (some ⟨g, o, none⟩) n c] w (PhPost (.an x y) w) := by
  have hn' : (0 : Int) < (n : Int) := by omega
  have hn2 : (1 : Int) < (n : Int) := by omega
  have hq0 : 0 < n := by omega
  have hq1 : 1 < n := by omega
  have hg := World.block_lt_of_cell? w _ hc
  have HC0 : Hid (∀ w', Below w.heap.size w w' → (w'.cell? ⟨g, o, none⟩ = some (.string ⟨(txtT x).toArray⟩) ∧ w'.cell? ⟨g, o + 1, none⟩ = some (.int .i64 (lastM x).1) ∧ w'.cell? ⟨g, o + 2, none⟩ = some (.string ⟨(txtT y).toArray⟩) ∧ w'.cell? ⟨g, o + 3, none⟩ = some (.int .i64 (lastM y).1))) := Lib.hid (fun w' hb => ⟨(hb.cell hg).trans hc, (hb.cell (p := ⟨g, o + 1, none⟩) hg).trans hc2, (hb.cell (p := ⟨g, o + 2, none⟩) hg).trans hc3, (hb.cell (p := ⟨g, o + 3, none⟩) hg).trans hc4⟩)
  have htx : txtT (.an x y) = heldT 1 x ++ 38 :: heldT 2 y := rfl
  have hl : (heldT 1 x).length + (heldT 2 y).length + 1 ≤ 900000 := by rw [htx, List.length_append, List.length_cons] at hs; omega
  have h1 : ∀ w : World, (Op.stringOp .add ⟨(heldT 1 x).toArray⟩ ⟨[38].toArray⟩).run Tryd.prog w = .ok (.string ⟨(heldT 1 x ++ [38]).toArray⟩) w := fun w => add_txt _ [38] (by simp; omega) w
  have h2 : ∀ w : World, (Op.stringOp .add ⟨(heldT 1 x ++ [38]).toArray⟩ ⟨(heldT 2 y).toArray⟩).run Tryd.prog w = .ok (.string ⟨(txtT (.an x y)).toArray⟩) w := fun w => by rw [htx, add_txt _ _ (by simp; omega)]; simp
  have HSX : Hid ((txtT x).length ≤ 1000000) := Lib.hid (by have := brk_ge (decide (ownT x < 1)) (txtT x); have h9 : (heldT 1 x).length = (brk (decide (ownT x < 1)) (txtT x)).length := rfl; omega)
  have HSY : Hid ((txtT y).length ≤ 1000000) := Lib.hid (by have := brk_ge (decide (ownT y < 2)) (txtT y); have h9 : (heldT 2 y).length = (brk (decide (ownT y < 2)) (txtT y)).length := rfl; omega)
  have HB : Hid (Below w.heap.size w ((w.alloc (.cells #[.int .i64 2, .int .i64 0] 59)).alloc (.cells #[.string ⟨#[]⟩, .int .i64 0] 72))) := Lib.hid (((Below.refl _ w).alloc (Nat.le_refl _) _).alloc (by simp) _)
  have HT0 := Lib.hid (two_boxes (Below.refl ((w.alloc (.cells #[.int .i64 2, .int .i64 0] 59)).alloc (.cells #[.string ⟨#[]⟩, .int .i64 0] 72)).heap.size ((w.alloc (.cells #[.int .i64 2, .int .i64 0] 59)).alloc (.cells #[.string ⟨#[]⟩, .int .i64 0] 72))))
  have HSTEP : Hid (∀ (wa wb : World), (fun w' => Below w.heap.size w w' ∧ (w'.cell? ⟨g, o, none⟩ = some (.string ⟨(txtT x).toArray⟩) ∧ w'.cell? ⟨g, o + 1, none⟩ = some (.int .i64 (lastM x).1) ∧ w'.cell? ⟨g, o + 2, none⟩ = some (.string ⟨(txtT y).toArray⟩) ∧ w'.cell? ⟨g, o + 3, none⟩ = some (.int .i64 (lastM y).1)) ∧ (Blk w' w.heap.size 59 #[.int .i64 2, .int .i64 0] ∧ Blk w' (w.heap.size + 1) 72 #[.string ⟨#[]⟩, .int .i64 0])) wa → Below wa.heap.size wa wb → (fun w' => Below w.heap.size w w' ∧ (w'.cell? ⟨g, o, none⟩ = some (.string ⟨(txtT x).toArray⟩) ∧ w'.cell? ⟨g, o + 1, none⟩ = some (.int .i64 (lastM x).1) ∧ w'.cell? ⟨g, o + 2, none⟩ = some (.string ⟨(txtT y).toArray⟩) ∧ w'.cell? ⟨g, o + 3, none⟩ = some (.int .i64 (lastM y).1)) ∧ (Blk w' w.heap.size 59 #[.int .i64 2, .int .i64 0] ∧ Blk w' (w.heap.size + 1) 72 #[.string ⟨#[]⟩, .int .i64 0])) wb) := Lib.hid (fun wa wb hw hb => by
    have hB := below_step hw.1 hb hw.1.size
    exact ⟨hB, HC0.out _ hB, ((hb.block _ hw.2.2.1.lt).trans hw.2.2.1), ((hb.block _ hw.2.2.2.lt).trans hw.2.2.2)⟩)
  clear hc hc2 hc3 hc4 htx hl hs hg
  go_enter Tryd.func48, Tryd.ntmps48
  go_upto_region 8 with fail
  generalize ((w.alloc (.cells #[.int .i64 2, .int .i64 0] 59)).alloc (.cells #[.string ⟨#[]⟩, .int .i64 0] 72)) = w2 at HB HT0 ⊢
  have k0 : (fun w' => Below w.heap.size w w' ∧ (w'.cell? ⟨g, o, none⟩ = some (.string ⟨(txtT x).toArray⟩) ∧ w'.cell? ⟨g, o + 1, none⟩ = some (.int .i64 (lastM x).1) ∧ w'.cell? ⟨g, o + 2, none⟩ = some (.string ⟨(txtT y).toArray⟩) ∧ w'.cell? ⟨g, o + 3, none⟩ = some (.int .i64 (lastM y).1)) ∧ (Blk w' w.heap.size 59 #[.int .i64 2, .int .i64 0] ∧ Blk w' (w.heap.size + 1) 72 #[.string ⟨#[]⟩, .int .i64 0])) w2.drew := ⟨HB.out.drew, HC0.out _ HB.out.drew, HT0.out⟩
  refine wp_region_held_drew (S := fun w' => Below w.heap.size w w' ∧ (w'.cell? ⟨g, o, none⟩ = some (.string ⟨(txtT x).toArray⟩) ∧ w'.cell? ⟨g, o + 1, none⟩ = some (.int .i64 (lastM x).1) ∧ w'.cell? ⟨g, o + 2, none⟩ = some (.string ⟨(txtT y).toArray⟩) ∧ w'.cell? ⟨g, o + 3, none⟩ = some (.int .i64 (lastM y).1)) ∧ (Blk w' w.heap.size 59 #[.int .i64 2, .int .i64 0] ∧ Blk w' (w.heap.size + 1) 72 #[.string ⟨#[]⟩, .int .i64 0])) (by kernel_rfl) k0 (fun hHeld => ?_)
  refine take_in (i := 0) (v := ?_) rfl (by kernel_rfl) (fun _ _ _ h => h) rfl ?_ hHeld ?_
  rotate_left
  · intro w' hSw; obtain ⟨-, ⟨d0, d1, d2, d3⟩, -⟩ := hSw; go_simp; all_goals with_reducible rfl
  try simp only [Act.put, List.setIfInBounds_toArray, List.set_cons_zero, List.set_cons_succ]
  refine take_in (i := 1) (v := ?_) rfl (by kernel_rfl) (fun _ _ _ h => h) rfl ?_ hHeld ?_
  rotate_left
  · intro w' hSw; obtain ⟨-, ⟨d0, d1, d2, d3⟩, -⟩ := hSw; go_simp; all_goals with_reducible rfl
  try simp only [Act.put, List.setIfInBounds_toArray, List.set_cons_zero, List.set_cons_succ]
  refine take_in (i := 2) (v := ?_) rfl (by kernel_rfl) (fun _ _ _ h => h) rfl ?_ hHeld ?_
  rotate_left
  · intro w' hSw; obtain ⟨-, ⟨d0, d1, d2, d3⟩, -⟩ := hSw; go_simp; all_goals with_reducible rfl
  try simp only [Act.put, List.setIfInBounds_toArray, List.set_cons_zero, List.set_cons_succ]
  refine take_in (i := 5) (v := ?_) rfl (by kernel_rfl) (fun _ _ _ h => h) rfl ?_ hHeld ?_
  rotate_left
  · intro w' hSw; obtain ⟨-, ⟨d0, d1, d2, d3⟩, -⟩ := hSw; go_simp; all_goals with_reducible rfl
  try simp only [Act.put, List.setIfInBounds_toArray, List.set_cons_zero, List.set_cons_succ]
  refine take_in (i := 6) (v := ?_) rfl (by kernel_rfl) (fun _ _ _ h => h) rfl ?_ hHeld ?_
  rotate_left
  · intro w' hSw; obtain ⟨-, ⟨d0, d1, d2, d3⟩, -⟩ := hSw; go_simp; all_goals with_reducible rfl
  try simp only [Act.put, List.setIfInBounds_toArray, List.set_cons_zero, List.set_cons_succ]
  refine take_in (i := 7) (v := ?_) rfl (by kernel_rfl) (fun _ _ _ h => h) rfl ?_ hHeld ?_
  rotate_left
  · intro w' hSw; obtain ⟨-, ⟨d0, d1, d2, d3⟩, -⟩ := hSw; go_simp; all_goals with_reducible rfl
  try simp only [Act.put, List.setIfInBounds_toArray, List.set_cons_zero, List.set_cons_succ]
  refine ready_one (i := 3) rfl (by kernel_rfl) (fun K hK => ?_)
  go_simp
  go_at_call 65
  refine (heldFrom_3 x HSX.out _).mono ?_
  rintro r y1 ⟨rfl, by1⟩
  have Sy1 := HSTEP.out _ _ k0 by1
  clear by1
  refine hK.out _ y1 (Sy1) (fun hHeld => ?_)
  clear hK K
  try simp only [Act.put, List.setIfInBounds_toArray, List.set_cons_zero, List.set_cons_succ]
  refine take_in (i := 4) (v := ?_) rfl (by kernel_rfl) (fun _ _ _ h => h) rfl ?_ hHeld ?_
  rotate_left
  · intro w' hSw; go_simp; all_goals with_reducible rfl
  try simp only [Act.put, List.setIfInBounds_toArray, List.set_cons_zero, List.set_cons_succ]
  refine ready_one (i := 8) rfl (by kernel_rfl) (fun K hK => ?_)
  go_simp
  go_at_call 65
  refine (heldFrom_2 y HSY.out _).mono ?_
  rintro r y2 ⟨rfl, by2⟩
  have Sy2 := HSTEP.out _ _ Sy1 by2
  clear by2
  refine hK.out _ y2 (Sy2) (fun hHeld => ?_)
  clear hK K
  try simp only [Act.put, List.setIfInBounds_toArray, List.set_cons_zero, List.set_cons_succ]
  refine take_in (i := 9) (v := ?_) rfl (by kernel_rfl) (fun _ _ _ h => h) rfl ?_ hHeld ?_
  rotate_left
  · intro w' hSw; go_simp; all_goals with_reducible rfl
  try simp only [Act.put, List.setIfInBounds_toArray, List.set_cons_zero, List.set_cons_succ]
  refine take_in (i := 10) (v := ?_) rfl (by kernel_rfl) (fun _ _ _ h => h) rfl ?_ hHeld ?_
  rotate_left
  · intro w' hSw; go_simp; all_goals with_reducible rfl
  try simp only [Act.put, List.setIfInBounds_toArray, List.set_cons_zero, List.set_cons_succ]
  refine wpAnyH_done (by kernel_rfl) ?_ _
  have HT : Hid (Blk y2 w.heap.size 59 #[.int .i64 2, .int .i64 0] ∧ Blk y2 (w.heap.size + 1) 72 #[.string ⟨#[]⟩, .int .i64 0]) := Lib.hid Sy2.2.2
  have HB3 : Hid (Below w.heap.size w y2) := Lib.hid Sy2.1
  clear k0 Sy2 Sy1 hHeld
  have hm0 : y2.cell? ⟨w.heap.size, 0, none⟩ = some (.int .i64 2) := HT.out.1.cell 0
  have hc0 : y2.cell? ⟨w.heap.size + 1, 0, none⟩ = some (.string ⟨#[]⟩) := HT.out.2.cell 0
  have hc1 : y2.cell? ⟨w.heap.size + 1, 1, none⟩ = some (.int .i64 0) := HT.out.2.cell 1
  have hf0 : y2.frozen? ⟨w.heap.size + 1, 0, none⟩ = false := HT.out.2.frozen 0
  have hf1 : y2.frozen? ⟨w.heap.size + 1, 1, none⟩ = false := HT.out.2.frozen 1
  have HR := Lib.hid (set_two HT.out.2 (.string ⟨(txtT (.an x y)).toArray⟩) (.int .i64 2))
  go_wp2_with fail
  obtain ⟨hr0, hr1⟩ := HR.out
  refine bodyPost_ret (v := .agg #[.string ⟨(txtT (.an x y)).toArray⟩, .int .i64 2]) (by simp [results, Tryd.results48, go_sem, hr0, hr1]) rfl ?_
  exact ⟨rfl, (HB3.out.setCell (by simp) _).setCell (by simp) _⟩

set_option maxRecDepth 100000 in
set_option maxHeartbeats 8000000 in
theorem ph_vel (x y : Tm) (hs : (txtT (.vel x y)).length ≤ 900000) (w : World) (g o n c : Nat) (hn : 2 ≤ n) (hc : w.cell? ⟨g, o, none⟩ = some (.string ⟨(txtT x).toArray⟩)) (hc2 : w.cell? ⟨g, o + 1, none⟩ = some (.int .i64 (lastM x).1)) (hc3 : w.cell? ⟨g, o + 2, none⟩ = some (.string ⟨(txtT y).toArray⟩)) (hc4 : w.cell? ⟨g, o + 3, none⟩ = some (.int .i64 (lastM y).1)) :
    Calls Tryd.prog 48 #[.agg #[.int .i64 3, .int .i64 0], .slice (some ⟨g, o, none⟩) n c] w (PhPost (.vel x y) w) := by
  have hn' : (0 : Int) < (n : Int) := by omega
  have hn2 : (1 : Int) < (n : Int) := by omega
  have hq0 : 0 < n := by omega
  have hq1 : 1 < n := by omega
  have hg := World.block_lt_of_cell? w _ hc
  have HC0 : Hid (∀ w', Below w.heap.size w w' → (w'.cell? ⟨g, o, none⟩ = some (.string ⟨(txtT x).toArray⟩) ∧ w'.cell? ⟨g, o + 1, none⟩ = some (.int .i64 (lastM x).1) ∧ w'.cell? ⟨g, o + 2, none⟩ = some (.string ⟨(txtT y).toArray⟩) ∧ w'.cell? ⟨g, o + 3, none⟩ = some (.int .i64 (lastM y).1))) := Lib.hid (fun w' hb => ⟨(hb.cell hg).trans hc, (hb.cell (p := ⟨g, o + 1, none⟩) hg).trans hc2, (hb.cell (p := ⟨g, o + 2, none⟩) hg).trans hc3, (hb.cell (p := ⟨g, o + 3, none⟩) hg).trans hc4⟩)
  have htx : txtT (.vel x y) = txtT x ++ 124 :: heldT 1 y := by rw [txtT]; rfl
  have hl : (txtT x).length + (heldT 1 y).length + 1 ≤ 900000 := by rw [htx, List.length_append, List.length_cons] at hs; omega
  have h1 : ∀ w : World, (Op.stringOp .add ⟨(txtT x).toArray⟩ ⟨[124].toArray⟩).run Tryd.prog w = .ok (.string ⟨(txtT x ++ [124]).toArray⟩) w := fun w => add_txt _ [124] (by simp; omega) w
  have h2 : ∀ w : World, (Op.stringOp .add ⟨(txtT x ++ [124]).toArray⟩ ⟨(heldT 1 y).toArray⟩).run Tryd.prog w = .ok (.string ⟨(txtT (.vel x y)).toArray⟩) w := fun w => by rw [htx, add_txt _ _ (by simp; omega)]; simp
  have HSX : Hid ((txtT x).length ≤ 1000000) := Lib.hid (by omega)
  have HSY : Hid ((txtT y).length ≤ 1000000) := Lib.hid (by have := brk_ge (decide (ownT y < 1)) (txtT y); have h9 : (heldT 1 y).length = (brk (decide (ownT y < 1)) (txtT y)).length := rfl; omega)
  have HB : Hid (Below w.heap.size w ((w.alloc (.cells #[.int .i64 3, .int .i64 0] 59)).alloc (.cells #[.string ⟨#[]⟩, .int .i64 0] 72))) := Lib.hid (((Below.refl _ w).alloc (Nat.le_refl _) _).alloc (by simp) _)
  have HT0 := Lib.hid (two_boxes (Below.refl ((w.alloc (.cells #[.int .i64 3, .int .i64 0] 59)).alloc (.cells #[.string ⟨#[]⟩, .int .i64 0] 72)).heap.size ((w.alloc (.cells #[.int .i64 3, .int .i64 0] 59)).alloc (.cells #[.string ⟨#[]⟩, .int .i64 0] 72))))
  have HSTEP : Hid (∀ (wa wb : World), (fun w' => Below w.heap.size w w' ∧ (w'.cell? ⟨g, o, none⟩ = some (.string ⟨(txtT x).toArray⟩) ∧ w'.cell? ⟨g, o + 1, none⟩ = some (.int .i64 (lastM x).1) ∧ w'.cell? ⟨g, o + 2, none⟩ = some (.string ⟨(txtT y).toArray⟩) ∧ w'.cell? ⟨g, o + 3, none⟩ = some (.int .i64 (lastM y).1)) ∧ (Blk w' w.heap.size 59 #[.int .i64 3, .int .i64 0] ∧ Blk w' (w.heap.size + 1) 72 #[.string ⟨#[]⟩, .int .i64 0])) wa → Below wa.heap.size wa wb → (fun w' => Below w.heap.size w w' ∧ (w'.cell? ⟨g, o, none⟩ = some (.string ⟨(txtT x).toArray⟩) ∧ w'.cell? ⟨g, o + 1, none⟩ = some (.int .i64 (lastM x).1) ∧ w'.cell? ⟨g, o + 2, none⟩ = some (.string ⟨(txtT y).toArray⟩) ∧ w'.cell? ⟨g, o + 3, none⟩ = some (.int .i64 (lastM y).1)) ∧ (Blk w' w.heap.size 59 #[.int .i64 3, .int .i64 0] ∧ Blk w' (w.heap.size + 1) 72 #[.string ⟨#[]⟩, .int .i64 0])) wb) := Lib.hid (fun wa wb hw hb => by
    have hB := below_step hw.1 hb hw.1.size
    exact ⟨hB, HC0.out _ hB, ((hb.block _ hw.2.2.1.lt).trans hw.2.2.1), ((hb.block _ hw.2.2.2.lt).trans hw.2.2.2)⟩)
  clear hc hc2 hc3 hc4 htx hl hs hg
  go_enter Tryd.func48, Tryd.ntmps48
  go_upto_region 10 with fail
  generalize ((w.alloc (.cells #[.int .i64 3, .int .i64 0] 59)).alloc (.cells #[.string ⟨#[]⟩, .int .i64 0] 72)) = w2 at HB HT0 ⊢
  have k0 : (fun w' => Below w.heap.size w w' ∧ (w'.cell? ⟨g, o, none⟩ = some (.string ⟨(txtT x).toArray⟩) ∧ w'.cell? ⟨g, o + 1, none⟩ = some (.int .i64 (lastM x).1) ∧ w'.cell? ⟨g, o + 2, none⟩ = some (.string ⟨(txtT y).toArray⟩) ∧ w'.cell? ⟨g, o + 3, none⟩ = some (.int .i64 (lastM y).1)) ∧ (Blk w' w.heap.size 59 #[.int .i64 3, .int .i64 0] ∧ Blk w' (w.heap.size + 1) 72 #[.string ⟨#[]⟩, .int .i64 0])) w2.drew := ⟨HB.out.drew, HC0.out _ HB.out.drew, HT0.out⟩
  refine wp_region_held_drew (S := fun w' => Below w.heap.size w w' ∧ (w'.cell? ⟨g, o, none⟩ = some (.string ⟨(txtT x).toArray⟩) ∧ w'.cell? ⟨g, o + 1, none⟩ = some (.int .i64 (lastM x).1) ∧ w'.cell? ⟨g, o + 2, none⟩ = some (.string ⟨(txtT y).toArray⟩) ∧ w'.cell? ⟨g, o + 3, none⟩ = some (.int .i64 (lastM y).1)) ∧ (Blk w' w.heap.size 59 #[.int .i64 3, .int .i64 0] ∧ Blk w' (w.heap.size + 1) 72 #[.string ⟨#[]⟩, .int .i64 0])) (by kernel_rfl) k0 (fun hHeld => ?_)
  refine take_in (i := 0) (v := ?_) rfl (by kernel_rfl) (fun _ _ _ h => h) rfl ?_ hHeld ?_
  rotate_left
  · intro w' hSw; obtain ⟨-, ⟨d0, d1, d2, d3⟩, -⟩ := hSw; go_simp; all_goals with_reducible rfl
  try simp only [Act.put, List.setIfInBounds_toArray, List.set_cons_zero, List.set_cons_succ]
  refine take_in (i := 1) (v := ?_) rfl (by kernel_rfl) (fun _ _ _ h => h) rfl ?_ hHeld ?_
  rotate_left
  · intro w' hSw; obtain ⟨-, ⟨d0, d1, d2, d3⟩, -⟩ := hSw; go_simp; all_goals with_reducible rfl
  try simp only [Act.put, List.setIfInBounds_toArray, List.set_cons_zero, List.set_cons_succ]
  refine take_in (i := 2) (v := ?_) rfl (by kernel_rfl) (fun _ _ _ h => h) rfl ?_ hHeld ?_
  rotate_left
  · intro w' hSw; obtain ⟨-, ⟨d0, d1, d2, d3⟩, -⟩ := hSw; go_simp; all_goals with_reducible rfl
  try simp only [Act.put, List.setIfInBounds_toArray, List.set_cons_zero, List.set_cons_succ]
  refine take_in (i := 3) (v := ?_) rfl (by kernel_rfl) (fun _ _ _ h => h) rfl ?_ hHeld ?_
  rotate_left
  · intro w' hSw; obtain ⟨-, ⟨d0, d1, d2, d3⟩, -⟩ := hSw; go_simp; all_goals with_reducible rfl
  try simp only [Act.put, List.setIfInBounds_toArray, List.set_cons_zero, List.set_cons_succ]
  refine take_in (i := 4) (v := ?_) rfl (by kernel_rfl) (fun _ _ _ h => h) rfl ?_ hHeld ?_
  rotate_left
  · intro w' hSw; obtain ⟨-, ⟨d0, d1, d2, d3⟩, -⟩ := hSw; go_simp; all_goals with_reducible rfl
  try simp only [Act.put, List.setIfInBounds_toArray, List.set_cons_zero, List.set_cons_succ]
  refine take_in (i := 5) (v := ?_) rfl (by kernel_rfl) (fun _ _ _ h => h) rfl ?_ hHeld ?_
  rotate_left
  · intro w' hSw; obtain ⟨-, ⟨d0, d1, d2, d3⟩, -⟩ := hSw; go_simp; all_goals with_reducible rfl
  try simp only [Act.put, List.setIfInBounds_toArray, List.set_cons_zero, List.set_cons_succ]
  refine take_in (i := 6) (v := ?_) rfl (by kernel_rfl) (fun _ _ _ h => h) rfl ?_ hHeld ?_
  rotate_left
  · intro w' hSw; obtain ⟨-, ⟨d0, d1, d2, d3⟩, -⟩ := hSw; go_simp; all_goals with_reducible rfl
  try simp only [Act.put, List.setIfInBounds_toArray, List.set_cons_zero, List.set_cons_succ]
  refine take_in (i := 7) (v := ?_) rfl (by kernel_rfl) (fun _ _ _ h => h) rfl ?_ hHeld ?_
  rotate_left
  · intro w' hSw; obtain ⟨-, ⟨d0, d1, d2, d3⟩, -⟩ := hSw; go_simp; all_goals with_reducible rfl
  try simp only [Act.put, List.setIfInBounds_toArray, List.set_cons_zero, List.set_cons_succ]
  refine ready_one (i := 8) rfl (by kernel_rfl) (fun K hK => ?_)
  go_simp
  go_at_call 65
  refine (heldFrom_3 y HSY.out _).mono ?_
  rintro r y2 ⟨rfl, by2⟩
  have Sy2 := HSTEP.out _ _ k0 by2
  clear by2
  refine hK.out _ y2 (Sy2) (fun hHeld => ?_)
  clear hK K
  try simp only [Act.put, List.setIfInBounds_toArray, List.set_cons_zero, List.set_cons_succ]
  refine take_in (i := 9) (v := ?_) rfl (by kernel_rfl) (fun _ _ _ h => h) rfl ?_ hHeld ?_
  rotate_left
  · intro w' hSw; go_simp; all_goals with_reducible rfl
  try simp only [Act.put, List.setIfInBounds_toArray, List.set_cons_zero, List.set_cons_succ]
  refine take_in (i := 10) (v := ?_) rfl (by kernel_rfl) (fun _ _ _ h => h) rfl ?_ hHeld ?_
  rotate_left
  · intro w' hSw; go_simp; all_goals with_reducible rfl
  try simp only [Act.put, List.setIfInBounds_toArray, List.set_cons_zero, List.set_cons_succ]
  refine wpAnyH_done (by kernel_rfl) ?_ _
  have HT : Hid (Blk y2 w.heap.size 59 #[.int .i64 3, .int .i64 0] ∧ Blk y2 (w.heap.size + 1) 72 #[.string ⟨#[]⟩, .int .i64 0]) := Lib.hid Sy2.2.2
  have HB3 : Hid (Below w.heap.size w y2) := Lib.hid Sy2.1
  clear k0 Sy2 hHeld
  have hm0 : y2.cell? ⟨w.heap.size, 0, none⟩ = some (.int .i64 3) := HT.out.1.cell 0
  have hc0 : y2.cell? ⟨w.heap.size + 1, 0, none⟩ = some (.string ⟨#[]⟩) := HT.out.2.cell 0
  have hc1 : y2.cell? ⟨w.heap.size + 1, 1, none⟩ = some (.int .i64 0) := HT.out.2.cell 1
  have hf0 : y2.frozen? ⟨w.heap.size + 1, 0, none⟩ = false := HT.out.2.frozen 0
  have hf1 : y2.frozen? ⟨w.heap.size + 1, 1, none⟩ = false := HT.out.2.frozen 1
  have HR := Lib.hid (set_two HT.out.2 (.string ⟨(txtT (.vel x y)).toArray⟩) (.int .i64 3))
  go_wp2_with fail
  obtain ⟨hr0, hr1⟩ := HR.out
  refine bodyPost_ret (v := .agg #[.string ⟨(txtT (.vel x y)).toArray⟩, .int .i64 3]) (by simp [results, Tryd.results48, go_sem, hr0, hr1]) rfl ?_
  exact ⟨rfl, (HB3.out.setCell (by simp) _).setCell (by simp) _⟩

end Go.Proofs.YtfdlfgokoponmaaDoor
