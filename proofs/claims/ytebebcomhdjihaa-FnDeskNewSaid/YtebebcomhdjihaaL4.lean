/- Contracts, facts and walks that the laws of this seat lean on, laid together by a program of ours (mkmerge.py) out of: Kq Kr Re Yr Xv Oj Dp Pa. Conditions: stated at each. -/
import Derived.Deep.DeepCutAuto
import Derived.Lib.Hide
import Derived.Test.YtebebcomhdjihaaL3
namespace Go.Proofs.Ytebebcomhdjihaa
open Go.RowKit
set_option linter.unusedVariables false

theorem Blk.below15 {w w' : World} {g : Nat} {t : TypeId} {cs : Array Value} (h : Blk w g t cs) (hb : Below w.heap.size w w') : Blk w' g t cs := h.more (hb.block g h.lt)

theorem Blk.off {w w' : World} {g : Nat} {t : TypeId} {cs : Array Value} {r : Option Nat} (h : Blk w g t cs) (hg : w.grownBy w' r) (hne : r ≠ some g) : Blk w' g t cs := h.more (hg.block g h.lt (fun e => hne e.symm))

def PlNew (p : Pl) (w : World) (e : Ending) (w' : World) : Prop := ∃ v u, e = .returned (.agg #[v, u]) ∧ QOwn w' w.heap.size v p.1 ∧ IOwn w' w.heap.size u p.2 ∧ (∀ g, v.ownBlock = some g → u.ownBlock ≠ some g) ∧ Below w.heap.size w w'

set_option maxRecDepth 100000 in
set_option maxHeartbeats 8000000 in
theorem l15Place_any {S : Nat → Prop} (w : World) (v u : Value) (p : Pl) (h : PlRd S w v u p) (h1 : p.1.length ≤ 1000) (h2 : p.2.length ≤ 1000) :
    Calls Try.prog 36 #[.agg #[v, u]] w (PlNew p w) := by
  obtain ⟨W, hW⟩ : ∃ W, (w.alloc (.cells #[v, u] 26)).alloc (.cells #[.slice none 0 0, .slice none 0 0] 26) = W := ⟨_, rfl⟩
  have f1 : Blk W w.heap.size 26 #[v, u] := by rw [← hW]; exact Blk.alloc (heap_alloc_new w _) _
  have f2 : Blk W (w.heap.size + 1) 26 #[.slice none 0 0, .slice none 0 0] := by
    rw [← hW]
    have := heap_alloc_new (w.alloc (.cells #[v, u] 26)) (.cells #[.slice none 0 0, .slice none 0 0] 26)
    rwa [World.size_alloc] at this
  have fB : Below w.heap.size w W := by rw [← hW]; exact ((Below.refl _ _).alloc (Nat.le_refl _) _).alloc (by rw [World.size_alloc]; omega) _
  have fz : w.heap.size + 1 < W.heap.size := f2.lt
  have HR1 : Hid (∀ X, Below w.heap.size w X → QRd X v p.1) := Lib.hid (fun X hb => h.1.1.keep (SameAt.of_below hb))
  have HR2 : Hid (∀ X, Below w.heap.size w X → GRd 1 iC X u p.2) := Lib.hid (fun X hb => ird_g (h.2.1.keep (SameAt.of_below hb)))
  have HS1 := Lib.hid h.1.2.1
  have HS2 := Lib.hid h.2.2.1
  have F2 := Lib.hid f2
  clear h f2
  obtain ⟨iq, hiq, hq0, hq1, hq2⟩ := info_parts Try_qinfo15
  obtain ⟨ii, hii, hi0, hi1, hi2⟩ := info_parts Try_intinfo
  go_enter Try.func36, Try.ntmps36
  go_wp2_with fail
  try rw [hW]
  clear hW
  have s0 : Below w.heap.size w W.drew ∧ Blk W.drew w.heap.size 26 #[v, u] := ⟨fB.drew, f1⟩
  have F2 : Blk W.drew (w.heap.size + 1) 26 #[.slice none 0 0, .slice none 0 0] := F2.out
  refine wp_region_held_drew (S := fun w' => Below w.heap.size w w' ∧ Blk w' w.heap.size 26 #[v, u]) (by kernel_rfl) s0 (fun hHeld => ?_)
  have fz : w.heap.size + 1 < W.drew.heap.size := fz
  clear fB f1
  generalize W.drew = X0 at *
  refine take_in (i := 1) (v := ?_) rfl (by kernel_rfl) (fun _ _ _ h => h) rfl ?_ hHeld ?_
  rotate_left
  · intro w' hSw; go_simp; all_goals with_reducible rfl
  try simp only [Act.put, List.setIfInBounds_toArray, List.set_cons_zero, List.set_cons_succ]
  refine take_in (i := 2) (v := ?_) rfl (by kernel_rfl) (fun _ _ _ h => h) rfl ?_ hHeld ?_
  rotate_left
  · intro w' hSw; have c0 := hSw.2.cell 0; have c1 := hSw.2.cell 1; go_simp; all_goals with_reducible rfl
  try simp only [Act.put, List.setIfInBounds_toArray, List.set_cons_zero, List.set_cons_succ]
  refine take_in (i := 5) (v := ?_) rfl (by kernel_rfl) (fun _ _ _ h => h) rfl ?_ hHeld ?_
  rotate_left
  · intro w' hSw; go_simp; all_goals with_reducible rfl
  try simp only [Act.put, List.setIfInBounds_toArray, List.set_cons_zero, List.set_cons_succ]
  refine take_in (i := 6) (v := ?_) rfl (by kernel_rfl) (fun _ _ _ h => h) rfl ?_ hHeld ?_
  rotate_left
  · intro w' hSw; have c0 := hSw.2.cell 0; have c1 := hSw.2.cell 1; go_simp; all_goals with_reducible rfl
  try simp only [Act.put, List.setIfInBounds_toArray, List.set_cons_zero, List.set_cons_succ]
  refine ready_two (i := 0) (j := 4) rfl rfl (by kernel_rfl) (fun K hK => ?_) (fun K hK => ?_)
  · go_simp
    have zX1 : X0.heap.size < (X0.alloc (.cells #[] 64)).heap.size := by rw [World.size_alloc]; omega
    have sX1 : Below w.heap.size w (X0.alloc (.cells #[] 64)) ∧ Blk (X0.alloc (.cells #[] 64)) w.heap.size 26 #[v, u] := ⟨s0.1.alloc s0.1.size _, s0.2.alloc _⟩
    replace F2 := F2.alloc (.cells #[] 64)
    have oa := lit_none (e := 64) (enc := qC) (c := 2) X0 w.heap.size s0.1.size
    refine hK.out _ _ sX1 (fun hHeld => ?_)
    clear hK K
    try simp only [Act.put, List.setIfInBounds_toArray, List.set_cons_zero, List.set_cons_succ]
    generalize (X0.alloc (.cells #[] 64)) = X1 at *
    refine ready_two (i := 3) (j := 4) rfl rfl (by kernel_rfl) (fun K hK => ?_) (fun K hK => ?_)
    · obtain ⟨v3, X2, rn, oo, gr, ne3⟩ := run_app_g (t := 23) (ty := 23) rfl hiq hq0 hq1 hq2 rfl (by decide) qC_len oa (HR1.out X1 sX1.1) HS1.out (qC15_one p.1) (by simp; omega) (by decide) sX1.1.size
      refine step_append (s := .tmp 3) (x := .tmp 5) rfl rfl rn ?_
      rw [List.nil_append] at oo
      have gr : X1.grownBy X2 (some X0.heap.size) := gr
      have ne3 : v3.ownBlock = some X0.heap.size ∨ v3.ownBlock = some X1.heap.size := ne3
      have zz : X1.heap.size ≤ X2.heap.size := gr.size
      have sX2 : Below w.heap.size w X2 ∧ Blk X2 w.heap.size 26 #[v, u] := ⟨sX1.1.grown gr sX1.1.size (fun k hk => (oa.ge k hk).1), sX1.2.off gr (fun e => by have h1 : _ = w.heap.size := Option.some.inj e; omega)⟩
      replace F2 := F2.off gr (fun e => by have h1 : _ = w.heap.size + 1 := Option.some.inj e; omega)
      have fz : w.heap.size + 1 < X2.heap.size := F2.lt
      have lt3 : ∀ g, v3.ownBlock = some g → g < X2.heap.size := fun g hg => (oo.ge g hg).2
      replace oa := oo
      refine hK.out _ _ sX2 (fun hHeld => ?_)
      clear hK K rn oo gr
      try simp only [Act.put, List.setIfInBounds_toArray, List.set_cons_zero, List.set_cons_succ]
      refine ready_one (i := 4) rfl (by kernel_rfl) (fun K hK => ?_)
      go_simp
      have zX3 : X2.heap.size < (X2.alloc (.cells #[] 3)).heap.size := by rw [World.size_alloc]; omega
      have sX3 : Below w.heap.size w (X2.alloc (.cells #[] 3)) ∧ Blk (X2.alloc (.cells #[] 3)) w.heap.size 26 #[v, u] := ⟨sX2.1.alloc sX2.1.size _, sX2.2.alloc _⟩
      replace oa := oa.alloc (.cells #[] 3)
      replace F2 := F2.alloc (.cells #[] 3)
      have ob := lit_none (e := 3) (enc := iC) (c := 1) X2 w.heap.size sX2.1.size
      refine hK.out _ _ sX3 (fun hHeld => ?_)
      clear hK K
      try simp only [Act.put, List.setIfInBounds_toArray, List.set_cons_zero, List.set_cons_succ]
      generalize (X2.alloc (.cells #[] 3)) = X3 at *
      refine ready_one (i := 7) rfl (by kernel_rfl) (fun K hK => ?_)
      obtain ⟨v7, X4, rn, oo, gr, ne7⟩ := run_app_g (t := 24) (ty := 24) rfl hii hi0 hi1 hi2 rfl (by decide) iC_len ob (HR2.out X3 sX3.1) HS2.out (iC_one p.2) (by simp; omega) (by decide) sX3.1.size
      refine step_append (s := .tmp 7) (x := .tmp 9) rfl rfl rn ?_
      rw [List.nil_append] at oo
      have gr : X3.grownBy X4 (some X2.heap.size) := gr
      have ne7 : v7.ownBlock = some X2.heap.size ∨ v7.ownBlock = some X3.heap.size := ne7
      have zz : X3.heap.size ≤ X4.heap.size := gr.size
      have sX4 : Below w.heap.size w X4 ∧ Blk X4 w.heap.size 26 #[v, u] := ⟨sX3.1.grown gr sX3.1.size (fun k hk => (ob.ge k hk).1), sX3.2.off gr (fun e => by have h1 : _ = w.heap.size := Option.some.inj e; omega)⟩
      replace oa := oa.off gr (.inr (fun e => by have l3 := lt3 _ e; rcases ne3 with h3 | h3 <;> (rw [e] at h3; have h4 := Option.some.inj h3; omega)))
      replace F2 := F2.off gr (fun e => by have h1 : _ = w.heap.size + 1 := Option.some.inj e; omega)
      have fz : w.heap.size + 1 < X4.heap.size := F2.lt
      have lt7 : ∀ g, v7.ownBlock = some g → g < X4.heap.size := fun g hg => (oo.ge g hg).2
      replace ob := oo
      refine hK.out _ _ sX4 (fun hHeld => ?_)
      clear hK K rn oo gr
      try simp only [Act.put, List.setIfInBounds_toArray, List.set_cons_zero, List.set_cons_succ]
      obtain ⟨A3, c3, rfl, -, -⟩ := (oa.rd qC_len).form
      obtain ⟨A7, c7, rfl, -, -⟩ := (ob.rd iC_len).form
      refine take_in (i := 8) (v := ?_) rfl (by kernel_rfl) (fun _ _ _ h => h) rfl ?_ hHeld ?_
      rotate_left
      · intro w' hSw; go_simp; all_goals with_reducible rfl
      try simp only [Act.put, List.setIfInBounds_toArray, List.set_cons_zero, List.set_cons_succ]
      have d0 := F2.cell 0
      have d1 := F2.cell 1
      have e0 := F2.frozen 0
      have e1 := F2.frozen 1
      have hfar : ∀ g, (Value.slice A3 p.1.length c3).ownBlock = some g → (Value.slice A7 p.2.length c7).ownBlock ≠ some g := by
        intro g hg e; have l3 := lt3 g hg; have l7 := lt7 g e; rcases ne3 with h3 | h3 <;> rcases ne7 with h7 | h7 <;> (rw [hg] at h3; rw [e] at h7; have h4 := Option.some.inj h3; have h5 := Option.some.inj h7; omega)
      have bz : Below w.heap.size w ((X4.setCell ⟨w.heap.size + 1, 0, none⟩ (Value.slice A3 p.1.length c3)).setCell ⟨w.heap.size + 1, 1, none⟩ (Value.slice A7 p.2.length c7)) := (sX4.1.setCell (p := ⟨w.heap.size + 1, 0, none⟩) (by show w.heap.size ≤ w.heap.size + 1; omega) _).setCell (p := ⟨w.heap.size + 1, 1, none⟩) (by show w.heap.size ≤ w.heap.size + 1; omega) _
      have sz : Below w.heap.size w ((X4.setCell ⟨w.heap.size + 1, 0, none⟩ (Value.slice A3 p.1.length c3)).setCell ⟨w.heap.size + 1, 1, none⟩ (Value.slice A7 p.2.length c7)) ∧ Blk ((X4.setCell ⟨w.heap.size + 1, 0, none⟩ (Value.slice A3 p.1.length c3)).setCell ⟨w.heap.size + 1, 1, none⟩ (Value.slice A7 p.2.length c7)) w.heap.size 26 #[v, u] := ⟨bz, (sX4.2.set_far _ (by omega)).set_far _ (by omega)⟩
      have gw : X4.grownBy ((X4.setCell ⟨w.heap.size + 1, 0, none⟩ (Value.slice A3 p.1.length c3)).setCell ⟨w.heap.size + 1, 1, none⟩ (Value.slice A7 p.2.length c7)) (some (w.heap.size + 1)) := grow3 (set1_grown _ _ _ _) (set1_grown _ _ _ _)
      have F3 : Blk ((X4.setCell ⟨w.heap.size + 1, 0, none⟩ (Value.slice A3 p.1.length c3)).setCell ⟨w.heap.size + 1, 1, none⟩ (Value.slice A7 p.2.length c7)) (w.heap.size + 1) 26 #[(Value.slice A3 p.1.length c3), (Value.slice A7 p.2.length c7)] := (F2.set_ 0 (Value.slice A3 p.1.length c3)).set_ 1 (Value.slice A7 p.2.length c7)
      replace oa := oa.off gw (.inr (fun e => by rcases ne3 with h3 | h3 <;> (rw [e] at h3; have h4 := Option.some.inj h3; omega)))
      replace ob := ob.off gw (.inr (fun e => by rcases ne7 with h3 | h3 <;> (rw [e] at h3; have h4 := Option.some.inj h3; omega)))
      refine ready_one (i := 9) rfl (by kernel_rfl) (fun K hK => ?_)
      go_simp
      refine hK.out _ _ sz (fun hHeld => ?_)
      clear hK K d0 d1 e0 e1 sz gw
      generalize ((X4.setCell ⟨w.heap.size + 1, 0, none⟩ (Value.slice A3 p.1.length c3)).setCell ⟨w.heap.size + 1, 1, none⟩ (Value.slice A7 p.2.length c7)) = XZ at *
      have d0 : XZ.cell? ⟨w.heap.size + 1, 0, none⟩ = some (Value.slice A3 p.1.length c3) := F3.cell 0
      have d1 : XZ.cell? ⟨w.heap.size + 1, 1, none⟩ = some (Value.slice A7 p.2.length c7) := F3.cell 1
      have OA := Lib.hid oa
      have OB := Lib.hid ob
      have HF := Lib.hid hfar
      have HB := Lib.hid bz
      clear oa ob hfar bz
      refine wpAnyH_done (by kernel_rfl) ?_ _
      go_wp2_with fail
      refine bodyPost_ret (v := .agg #[(Value.slice A3 p.1.length c3), (Value.slice A7 p.2.length c7)]) (by simp [results, Try.results36, go_sem, d0, d1]) rfl ?_
      exact ⟨_, _, rfl, OA.out, iown_g.2 OB.out, HF.out, HB.out⟩
    · go_simp
      have zX2 : X1.heap.size < (X1.alloc (.cells #[] 3)).heap.size := by rw [World.size_alloc]; omega
      have sX2 : Below w.heap.size w (X1.alloc (.cells #[] 3)) ∧ Blk (X1.alloc (.cells #[] 3)) w.heap.size 26 #[v, u] := ⟨sX1.1.alloc sX1.1.size _, sX1.2.alloc _⟩
      replace oa := oa.alloc (.cells #[] 3)
      replace F2 := F2.alloc (.cells #[] 3)
      have ob := lit_none (e := 3) (enc := iC) (c := 1) X1 w.heap.size sX1.1.size
      refine hK.out _ _ sX2 (fun hHeld => ?_)
      clear hK K
      try simp only [Act.put, List.setIfInBounds_toArray, List.set_cons_zero, List.set_cons_succ]
      generalize (X1.alloc (.cells #[] 3)) = X2 at *
      refine ready_one (i := 3) rfl (by kernel_rfl) (fun K hK => ?_)
      obtain ⟨v3, X3, rn, oo, gr, ne3⟩ := run_app_g (t := 23) (ty := 23) rfl hiq hq0 hq1 hq2 rfl (by decide) qC_len oa (HR1.out X2 sX2.1) HS1.out (qC15_one p.1) (by simp; omega) (by decide) sX2.1.size
      refine step_append (s := .tmp 3) (x := .tmp 5) rfl rfl rn ?_
      rw [List.nil_append] at oo
      have gr : X2.grownBy X3 (some X0.heap.size) := gr
      have ne3 : v3.ownBlock = some X0.heap.size ∨ v3.ownBlock = some X2.heap.size := ne3
      have zz : X2.heap.size ≤ X3.heap.size := gr.size
      have sX3 : Below w.heap.size w X3 ∧ Blk X3 w.heap.size 26 #[v, u] := ⟨sX2.1.grown gr sX2.1.size (fun k hk => (oa.ge k hk).1), sX2.2.off gr (fun e => by have h1 : _ = w.heap.size := Option.some.inj e; omega)⟩
      replace ob := ob.off gr (.inr (fun e => by have h1 : X1.heap.size = X0.heap.size := Option.some.inj e; omega))
      replace F2 := F2.off gr (fun e => by have h1 : _ = w.heap.size + 1 := Option.some.inj e; omega)
      have fz : w.heap.size + 1 < X3.heap.size := F2.lt
      have lt3 : ∀ g, v3.ownBlock = some g → g < X3.heap.size := fun g hg => (oo.ge g hg).2
      replace oa := oo
      refine hK.out _ _ sX3 (fun hHeld => ?_)
      clear hK K rn oo gr
      try simp only [Act.put, List.setIfInBounds_toArray, List.set_cons_zero, List.set_cons_succ]
      refine ready_one (i := 7) rfl (by kernel_rfl) (fun K hK => ?_)
      obtain ⟨v7, X4, rn, oo, gr, ne7⟩ := run_app_g (t := 24) (ty := 24) rfl hii hi0 hi1 hi2 rfl (by decide) iC_len ob (HR2.out X3 sX3.1) HS2.out (iC_one p.2) (by simp; omega) (by decide) sX3.1.size
      refine step_append (s := .tmp 7) (x := .tmp 9) rfl rfl rn ?_
      rw [List.nil_append] at oo
      have gr : X3.grownBy X4 (some X1.heap.size) := gr
      have ne7 : v7.ownBlock = some X1.heap.size ∨ v7.ownBlock = some X3.heap.size := ne7
      have zz : X3.heap.size ≤ X4.heap.size := gr.size
      have sX4 : Below w.heap.size w X4 ∧ Blk X4 w.heap.size 26 #[v, u] := ⟨sX3.1.grown gr sX3.1.size (fun k hk => (ob.ge k hk).1), sX3.2.off gr (fun e => by have h1 : _ = w.heap.size := Option.some.inj e; omega)⟩
      replace oa := oa.off gr (.inr (fun e => by have l3 := lt3 _ e; rcases ne3 with h3 | h3 <;> (rw [e] at h3; have h4 := Option.some.inj h3; omega)))
      replace F2 := F2.off gr (fun e => by have h1 : _ = w.heap.size + 1 := Option.some.inj e; omega)
      have fz : w.heap.size + 1 < X4.heap.size := F2.lt
      have lt7 : ∀ g, v7.ownBlock = some g → g < X4.heap.size := fun g hg => (oo.ge g hg).2
      replace ob := oo
      refine hK.out _ _ sX4 (fun hHeld => ?_)
      clear hK K rn oo gr
      try simp only [Act.put, List.setIfInBounds_toArray, List.set_cons_zero, List.set_cons_succ]
      obtain ⟨A3, c3, rfl, -, -⟩ := (oa.rd qC_len).form
      obtain ⟨A7, c7, rfl, -, -⟩ := (ob.rd iC_len).form
      refine take_in (i := 8) (v := ?_) rfl (by kernel_rfl) (fun _ _ _ h => h) rfl ?_ hHeld ?_
      rotate_left
      · intro w' hSw; go_simp; all_goals with_reducible rfl
      try simp only [Act.put, List.setIfInBounds_toArray, List.set_cons_zero, List.set_cons_succ]
      have d0 := F2.cell 0
      have d1 := F2.cell 1
      have e0 := F2.frozen 0
      have e1 := F2.frozen 1
      have hfar : ∀ g, (Value.slice A3 p.1.length c3).ownBlock = some g → (Value.slice A7 p.2.length c7).ownBlock ≠ some g := by
        intro g hg e; have l3 := lt3 g hg; have l7 := lt7 g e; rcases ne3 with h3 | h3 <;> rcases ne7 with h7 | h7 <;> (rw [hg] at h3; rw [e] at h7; have h4 := Option.some.inj h3; have h5 := Option.some.inj h7; omega)
      have bz : Below w.heap.size w ((X4.setCell ⟨w.heap.size + 1, 0, none⟩ (Value.slice A3 p.1.length c3)).setCell ⟨w.heap.size + 1, 1, none⟩ (Value.slice A7 p.2.length c7)) := (sX4.1.setCell (p := ⟨w.heap.size + 1, 0, none⟩) (by show w.heap.size ≤ w.heap.size + 1; omega) _).setCell (p := ⟨w.heap.size + 1, 1, none⟩) (by show w.heap.size ≤ w.heap.size + 1; omega) _
      have sz : Below w.heap.size w ((X4.setCell ⟨w.heap.size + 1, 0, none⟩ (Value.slice A3 p.1.length c3)).setCell ⟨w.heap.size + 1, 1, none⟩ (Value.slice A7 p.2.length c7)) ∧ Blk ((X4.setCell ⟨w.heap.size + 1, 0, none⟩ (Value.slice A3 p.1.length c3)).setCell ⟨w.heap.size + 1, 1, none⟩ (Value.slice A7 p.2.length c7)) w.heap.size 26 #[v, u] := ⟨bz, (sX4.2.set_far _ (by omega)).set_far _ (by omega)⟩
      have gw : X4.grownBy ((X4.setCell ⟨w.heap.size + 1, 0, none⟩ (Value.slice A3 p.1.length c3)).setCell ⟨w.heap.size + 1, 1, none⟩ (Value.slice A7 p.2.length c7)) (some (w.heap.size + 1)) := grow3 (set1_grown _ _ _ _) (set1_grown _ _ _ _)
      have F3 : Blk ((X4.setCell ⟨w.heap.size + 1, 0, none⟩ (Value.slice A3 p.1.length c3)).setCell ⟨w.heap.size + 1, 1, none⟩ (Value.slice A7 p.2.length c7)) (w.heap.size + 1) 26 #[(Value.slice A3 p.1.length c3), (Value.slice A7 p.2.length c7)] := (F2.set_ 0 (Value.slice A3 p.1.length c3)).set_ 1 (Value.slice A7 p.2.length c7)
      replace oa := oa.off gw (.inr (fun e => by rcases ne3 with h3 | h3 <;> (rw [e] at h3; have h4 := Option.some.inj h3; omega)))
      replace ob := ob.off gw (.inr (fun e => by rcases ne7 with h3 | h3 <;> (rw [e] at h3; have h4 := Option.some.inj h3; omega)))
      refine ready_one (i := 9) rfl (by kernel_rfl) (fun K hK => ?_)
      go_simp
      refine hK.out _ _ sz (fun hHeld => ?_)
      clear hK K d0 d1 e0 e1 sz gw
      generalize ((X4.setCell ⟨w.heap.size + 1, 0, none⟩ (Value.slice A3 p.1.length c3)).setCell ⟨w.heap.size + 1, 1, none⟩ (Value.slice A7 p.2.length c7)) = XZ at *
      have d0 : XZ.cell? ⟨w.heap.size + 1, 0, none⟩ = some (Value.slice A3 p.1.length c3) := F3.cell 0
      have d1 : XZ.cell? ⟨w.heap.size + 1, 1, none⟩ = some (Value.slice A7 p.2.length c7) := F3.cell 1
      have OA := Lib.hid oa
      have OB := Lib.hid ob
      have HF := Lib.hid hfar
      have HB := Lib.hid bz
      clear oa ob hfar bz
      refine wpAnyH_done (by kernel_rfl) ?_ _
      go_wp2_with fail
      refine bodyPost_ret (v := .agg #[(Value.slice A3 p.1.length c3), (Value.slice A7 p.2.length c7)]) (by simp [results, Try.results36, go_sem, d0, d1]) rfl ?_
      exact ⟨_, _, rfl, OA.out, iown_g.2 OB.out, HF.out, HB.out⟩
  · go_simp
    have zX1 : X0.heap.size < (X0.alloc (.cells #[] 3)).heap.size := by rw [World.size_alloc]; omega
    have sX1 : Below w.heap.size w (X0.alloc (.cells #[] 3)) ∧ Blk (X0.alloc (.cells #[] 3)) w.heap.size 26 #[v, u] := ⟨s0.1.alloc s0.1.size _, s0.2.alloc _⟩
    replace F2 := F2.alloc (.cells #[] 3)
    have ob := lit_none (e := 3) (enc := iC) (c := 1) X0 w.heap.size s0.1.size
    refine hK.out _ _ sX1 (fun hHeld => ?_)
    clear hK K
    try simp only [Act.put, List.setIfInBounds_toArray, List.set_cons_zero, List.set_cons_succ]
    generalize (X0.alloc (.cells #[] 3)) = X1 at *
    refine ready_one (i := 0) rfl (by kernel_rfl) (fun K hK => ?_)
    go_simp
    have zX2 : X1.heap.size < (X1.alloc (.cells #[] 64)).heap.size := by rw [World.size_alloc]; omega
    have sX2 : Below w.heap.size w (X1.alloc (.cells #[] 64)) ∧ Blk (X1.alloc (.cells #[] 64)) w.heap.size 26 #[v, u] := ⟨sX1.1.alloc sX1.1.size _, sX1.2.alloc _⟩
    replace ob := ob.alloc (.cells #[] 64)
    replace F2 := F2.alloc (.cells #[] 64)
    have oa := lit_none (e := 64) (enc := qC) (c := 2) X1 w.heap.size sX1.1.size
    refine hK.out _ _ sX2 (fun hHeld => ?_)
    clear hK K
    try simp only [Act.put, List.setIfInBounds_toArray, List.set_cons_zero, List.set_cons_succ]
    generalize (X1.alloc (.cells #[] 64)) = X2 at *
    refine ready_one (i := 3) rfl (by kernel_rfl) (fun K hK => ?_)
    obtain ⟨v3, X3, rn, oo, gr, ne3⟩ := run_app_g (t := 23) (ty := 23) rfl hiq hq0 hq1 hq2 rfl (by decide) qC_len oa (HR1.out X2 sX2.1) HS1.out (qC15_one p.1) (by simp; omega) (by decide) sX2.1.size
    refine step_append (s := .tmp 3) (x := .tmp 5) rfl rfl rn ?_
    rw [List.nil_append] at oo
    have gr : X2.grownBy X3 (some X1.heap.size) := gr
    have ne3 : v3.ownBlock = some X1.heap.size ∨ v3.ownBlock = some X2.heap.size := ne3
    have zz : X2.heap.size ≤ X3.heap.size := gr.size
    have sX3 : Below w.heap.size w X3 ∧ Blk X3 w.heap.size 26 #[v, u] := ⟨sX2.1.grown gr sX2.1.size (fun k hk => (oa.ge k hk).1), sX2.2.off gr (fun e => by have h1 : _ = w.heap.size := Option.some.inj e; omega)⟩
    replace ob := ob.off gr (.inr (fun e => by have h1 : X0.heap.size = X1.heap.size := Option.some.inj e; omega))
    replace F2 := F2.off gr (fun e => by have h1 : _ = w.heap.size + 1 := Option.some.inj e; omega)
    have fz : w.heap.size + 1 < X3.heap.size := F2.lt
    have lt3 : ∀ g, v3.ownBlock = some g → g < X3.heap.size := fun g hg => (oo.ge g hg).2
    replace oa := oo
    refine hK.out _ _ sX3 (fun hHeld => ?_)
    clear hK K rn oo gr
    try simp only [Act.put, List.setIfInBounds_toArray, List.set_cons_zero, List.set_cons_succ]
    refine ready_one (i := 7) rfl (by kernel_rfl) (fun K hK => ?_)
    obtain ⟨v7, X4, rn, oo, gr, ne7⟩ := run_app_g (t := 24) (ty := 24) rfl hii hi0 hi1 hi2 rfl (by decide) iC_len ob (HR2.out X3 sX3.1) HS2.out (iC_one p.2) (by simp; omega) (by decide) sX3.1.size
    refine step_append (s := .tmp 7) (x := .tmp 9) rfl rfl rn ?_
    rw [List.nil_append] at oo
    have gr : X3.grownBy X4 (some X0.heap.size) := gr
    have ne7 : v7.ownBlock = some X0.heap.size ∨ v7.ownBlock = some X3.heap.size := ne7
    have zz : X3.heap.size ≤ X4.heap.size := gr.size
    have sX4 : Below w.heap.size w X4 ∧ Blk X4 w.heap.size 26 #[v, u] := ⟨sX3.1.grown gr sX3.1.size (fun k hk => (ob.ge k hk).1), sX3.2.off gr (fun e => by have h1 : _ = w.heap.size := Option.some.inj e; omega)⟩
    replace oa := oa.off gr (.inr (fun e => by have l3 := lt3 _ e; rcases ne3 with h3 | h3 <;> (rw [e] at h3; have h4 := Option.some.inj h3; omega)))
    replace F2 := F2.off gr (fun e => by have h1 : _ = w.heap.size + 1 := Option.some.inj e; omega)
    have fz : w.heap.size + 1 < X4.heap.size := F2.lt
    have lt7 : ∀ g, v7.ownBlock = some g → g < X4.heap.size := fun g hg => (oo.ge g hg).2
    replace ob := oo
    refine hK.out _ _ sX4 (fun hHeld => ?_)
    clear hK K rn oo gr
    try simp only [Act.put, List.setIfInBounds_toArray, List.set_cons_zero, List.set_cons_succ]
    obtain ⟨A3, c3, rfl, -, -⟩ := (oa.rd qC_len).form
    obtain ⟨A7, c7, rfl, -, -⟩ := (ob.rd iC_len).form
    refine take_in (i := 8) (v := ?_) rfl (by kernel_rfl) (fun _ _ _ h => h) rfl ?_ hHeld ?_
    rotate_left
    · intro w' hSw; go_simp; all_goals with_reducible rfl
    try simp only [Act.put, List.setIfInBounds_toArray, List.set_cons_zero, List.set_cons_succ]
    have d0 := F2.cell 0
    have d1 := F2.cell 1
    have e0 := F2.frozen 0
    have e1 := F2.frozen 1
    have hfar : ∀ g, (Value.slice A3 p.1.length c3).ownBlock = some g → (Value.slice A7 p.2.length c7).ownBlock ≠ some g := by
      intro g hg e; have l3 := lt3 g hg; have l7 := lt7 g e; rcases ne3 with h3 | h3 <;> rcases ne7 with h7 | h7 <;> (rw [hg] at h3; rw [e] at h7; have h4 := Option.some.inj h3; have h5 := Option.some.inj h7; omega)
    have bz : Below w.heap.size w ((X4.setCell ⟨w.heap.size + 1, 0, none⟩ (Value.slice A3 p.1.length c3)).setCell ⟨w.heap.size + 1, 1, none⟩ (Value.slice A7 p.2.length c7)) := (sX4.1.setCell (p := ⟨w.heap.size + 1, 0, none⟩) (by show w.heap.size ≤ w.heap.size + 1; omega) _).setCell (p := ⟨w.heap.size + 1, 1, none⟩) (by show w.heap.size ≤ w.heap.size + 1; omega) _
    have sz : Below w.heap.size w ((X4.setCell ⟨w.heap.size + 1, 0, none⟩ (Value.slice A3 p.1.length c3)).setCell ⟨w.heap.size + 1, 1, none⟩ (Value.slice A7 p.2.length c7)) ∧ Blk ((X4.setCell ⟨w.heap.size + 1, 0, none⟩ (Value.slice A3 p.1.length c3)).setCell ⟨w.heap.size + 1, 1, none⟩ (Value.slice A7 p.2.length c7)) w.heap.size 26 #[v, u] := ⟨bz, (sX4.2.set_far _ (by omega)).set_far _ (by omega)⟩
    have gw : X4.grownBy ((X4.setCell ⟨w.heap.size + 1, 0, none⟩ (Value.slice A3 p.1.length c3)).setCell ⟨w.heap.size + 1, 1, none⟩ (Value.slice A7 p.2.length c7)) (some (w.heap.size + 1)) := grow3 (set1_grown _ _ _ _) (set1_grown _ _ _ _)
    have F3 : Blk ((X4.setCell ⟨w.heap.size + 1, 0, none⟩ (Value.slice A3 p.1.length c3)).setCell ⟨w.heap.size + 1, 1, none⟩ (Value.slice A7 p.2.length c7)) (w.heap.size + 1) 26 #[(Value.slice A3 p.1.length c3), (Value.slice A7 p.2.length c7)] := (F2.set_ 0 (Value.slice A3 p.1.length c3)).set_ 1 (Value.slice A7 p.2.length c7)
    replace oa := oa.off gw (.inr (fun e => by rcases ne3 with h3 | h3 <;> (rw [e] at h3; have h4 := Option.some.inj h3; omega)))
    replace ob := ob.off gw (.inr (fun e => by rcases ne7 with h3 | h3 <;> (rw [e] at h3; have h4 := Option.some.inj h3; omega)))
    refine ready_one (i := 9) rfl (by kernel_rfl) (fun K hK => ?_)
    go_simp
    refine hK.out _ _ sz (fun hHeld => ?_)
    clear hK K d0 d1 e0 e1 sz gw
    generalize ((X4.setCell ⟨w.heap.size + 1, 0, none⟩ (Value.slice A3 p.1.length c3)).setCell ⟨w.heap.size + 1, 1, none⟩ (Value.slice A7 p.2.length c7)) = XZ at *
    have d0 : XZ.cell? ⟨w.heap.size + 1, 0, none⟩ = some (Value.slice A3 p.1.length c3) := F3.cell 0
    have d1 : XZ.cell? ⟨w.heap.size + 1, 1, none⟩ = some (Value.slice A7 p.2.length c7) := F3.cell 1
    have OA := Lib.hid oa
    have OB := Lib.hid ob
    have HF := Lib.hid hfar
    have HB := Lib.hid bz
    clear oa ob hfar bz
    refine wpAnyH_done (by kernel_rfl) ?_ _
    go_wp2_with fail
    refine bodyPost_ret (v := .agg #[(Value.slice A3 p.1.length c3), (Value.slice A7 p.2.length c7)]) (by simp [results, Try.results36, go_sem, d0, d1]) rfl ?_
    exact ⟨_, _, rfl, OA.out, iown_g.2 OB.out, HF.out, HB.out⟩

theorem all_pl {ps : List Pl} {k : Nat} {p : Pl} (hx : ps[k]? = some p) (h : plB p = true) (ih : ∀ y ∈ ps.take k, plB y = true) : ∀ y ∈ ps.take (k + 1), plB y = true := by
  rw [List.take_add_one, hx]
  intro y hy
  rcases List.mem_append.1 hy with h1 | h1
  · exact ih y h1
  · simp at h1; subst h1; exact h

def DkOwn (S : Nat → Prop) (w : World) (base : Nat) (v u r : Value) (d : Dk) : Prop := PlRd (fun g => S g ∧ r.ownBlock ≠ some g) w v u d.1 ∧ PsOwn S w base r d.2

theorem DkOwn.rd {S : Nat → Prop} {w : World} {base : Nat} {v u r : Value} {d : Dk} (h : DkOwn S w base v u r d) : DkRd S w v u r d := ⟨h.1.mono (fun g hg => hg.1), h.2.rd⟩

theorem DkOwn.below {S : Nat → Prop} {w w' : World} {base : Nat} {v u r : Value} {d : Dk} (h : DkOwn S w base v u r d) (hb : Below w.heap.size w w') : DkOwn S w' base v u r d := ⟨h.1.below hb, h.2.below hb⟩

theorem DkOwn.off {S : Nat → Prop} {w w' : World} {base : Nat} {v u r : Value} {d : Dk} {g : Nat} (h : DkOwn S w base v u r d) (hg : w.grownBy w' (some g)) (hs : ¬ S g) : DkOwn S w' base v u r d := ⟨h.1.off hg (fun hh => hs hh.1), h.2.off hg hs⟩

theorem IOwn.sane {w : World} {base : Nat} {v : Value} {xs : List Int} (h : IOwn w base v xs) : Sane v := (iown_g.1 h).sane

theorem pl_new {w' : World} {base : Nat} {v u : Value} {p : Pl} {S : Nat → Prop} (hv : QOwn w' base v p.1) (hu : IOwn w' base u p.2) (hs : ∀ g, base ≤ g → g < w'.heap.size → S g) : PlRd S w' v u p :=
  ⟨⟨hv.rd qC_len, hv.sane, fun g hg => hs g (hv.ge g hg).1 (hv.ge g hg).2⟩, ⟨hu.rd, hu.sane, fun g hg => hs g (hu.ge g hg).1 (hu.ge g hg).2⟩⟩

theorem PsOwn.ge {S : Nat → Prop} {w : World} {base : Nat} {v : Value} {ps : List Pl} (h : PsOwn S w base v ps) : ∀ g, v.ownBlock = some g → S g := by
  obtain ⟨us, -, ⟨-, h2⟩, -⟩ := h
  exact h2

theorem PsOwn.mono {S T : Nat → Prop} {w : World} {base : Nat} {v : Value} {ps : List Pl} (h : PsOwn S w base v ps) (hst : ∀ g, S g → T g) : PsOwn T w base v ps := by
  obtain ⟨us, h1, h2, h3⟩ := h
  exact ⟨us, h1, ⟨h2.1, h2.2.mono hst⟩, fun k x p k1 k2 => (h3 k x p k1 k2).mono (fun g hg => ⟨hst g hg.1, hg.2⟩)⟩

theorem PsOwn.base {S : Nat → Prop} {w : World} {base base' : Nat} {v : Value} {ps : List Pl} (h : PsOwn S w base v ps) (hb : base' ≤ base) : PsOwn S w base' v ps := by
  obtain ⟨us, h1, h2, h3⟩ := h
  exact ⟨us, h1, ⟨h2.1.base hb, h2.2⟩, h3⟩

end Go.Proofs.Ytebebcomhdjihaa

namespace Go.Proofs.Ytebebcomhdjihaa
open Go.RowKit
set_option linter.unusedVariables false

def DeskPost (d : Dk) (b : Bool) (w : World) (e : Ending) (w' : World) : Prop := ∃ v u r, e = .returned (.tuple #[.agg #[v, u, r], .bool b]) ∧ DkRd (fun g => w.heap.size ≤ g ∧ g < w'.heap.size) w' v u r d ∧ (d.2.length < 8 → DkOwn (fun g => w.heap.size ≤ g ∧ g < w'.heap.size) w' w.heap.size v u r d) ∧ Below w.heap.size w w'

theorem wp_app_run {ops : Array Oper} {rest : List Oper} {o : Oper} {a : Act} {Q : Exit → Act → World → Prop} (hgd : o.guard = none) (s x : Operand) (t : TypeId) (ho : o.op = .call { callee := .builtin .append, args := #[s, x], argTypes := #[t, t] }) {v u v' : Value} {w w' : World}
    (hs : a.eval s = v) (hx : a.eval x = u) (hr : (Builtin.append_ #[t, t] o.type #[v, u]).run Try.prog w = .ok v' w') (h : wpList Try.prog ops Q rest (a.put o.dst v') w') : wpList Try.prog ops Q (o :: rest) a w := by
  refine wpList_plain hgd fun K hK => ?_
  unfold Oper.wp
  simp [execOp, ho, resolve, invoke, builtin, hs, hx, hr, Result.andThen]
  exact hK _ _ h

end Go.Proofs.Ytebebcomhdjihaa

namespace Go.Proofs.Ytebebcomhdjihaa
set_option linter.unusedVariables false

section
variable {P : Program} {ops : Array Oper} {Q : Exit → Act → World → Prop} {md : Region.Mode} {S : World → Prop} {st : Nat}

def wpAnyL (P : Program) (md : Region.Mode) (ops : Array Oper) (Q : Exit → Act → World → Prop) (S : World → Prop) (st : Nat) : Nat → Array Bool → Act → World → Prop
  | 0, listed, a, w => Region.ready md ops listed = [] ∧ Q .normal a w
  | fuel + 1, listed, a, w => (Region.ready md ops listed = [] → Q .normal a w) ∧
      ∀ i ∈ Region.ready md ops listed, wpOp P ops Q i (fun a' w' => (i ≠ st → S w') ∧ wpAnyL P md ops Q S st fuel (listed.setIfInBounds i true) a' w') a w

theorem late_any (fuel : Nat) : ∀ (listed : Array Bool) (a : Act) (w : World), wpAnyL P md ops Q S st fuel listed a w → wpAny P md ops Q fuel listed a w := by
  induction fuel with
  | zero => exact fun _ _ _ h => h
  | succ fuel ih => exact fun listed a w h => ⟨h.1, fun i hi => wpOp_mono (fun a' w' k => ih _ a' w' k.2) (h.2 i hi)⟩

def waitsB (md : Region.Mode) (ops : Array Oper) (st i : Nat) : Bool := (ops[st]?.map fun o => o.after.any fun e => Region.binds md e && e.on == i).getD false

theorem waits_not {listed : Array Bool} {i : Nat} (h : waitsB md ops st i = true) (hi : i ∈ Region.ready md ops listed) : st ∉ Region.ready md ops listed := by
  intro hs
  obtain ⟨-, o, ho, hall⟩ := mem_ready.1 hs
  rw [waitsB, ho] at h
  obtain ⟨e, he, h2⟩ := Array.any_eq_true'.1 h
  rw [Bool.and_eq_true, beq_iff_eq] at h2
  have h3 := hall e he h2.1
  have h4 := (mem_ready.1 hi).1
  rw [h2.2] at h3
  rcases Nat.lt_or_ge i listed.size with hl | hl
  · simp [hl] at h3 h4
    rw [h3] at h4; cases h4
  · simp [Array.getElem?_eq_none hl] at h3

theorem late_first {i : Nat} {oi : Oper} {v : Value} (hi : ops[i]? = some oi) (hw : waitsB md ops st i = true) (hsel : Region.noSelect ops = true) (hQ : ∀ c a w, Q (.panic c) (a.put oi.dst v) w → Q (.panic c) a w) (fuel : Nat) :
    ∀ (listed : Array Bool) (a : Act) (w : World), (∀ j oj, ops[j]? = some oj → j ≠ i → listed.getD j true = false → (∀ e ∈ oj.after, Region.binds md e = true → e.on ≠ i) → oi.apart ops oj = true) →
      i ∈ Region.ready md ops listed → YieldsIf P ops S oi v a → S w → wpAnyL P md ops Q S st fuel (listed.setIfInBounds i true) (a.put oi.dst v) w → wpAnyL P md ops Q S st (fuel + 1) listed a w := by
  induction fuel with
  | zero =>
    intro listed a w _ hr hy hS H
    refine ⟨fun h0 => (by rw [h0] at hr; cases hr), fun j hj => ?_⟩
    by_cases hji : j = i
    · subst hji
      exact hy.wpOp hi hS ⟨fun _ => hS, H⟩
    · have h1 := ready_mono hj hji
      rw [H.1] at h1; cases h1
  | succ fuel ih =>
    intro listed a w hap hr hy hS H
    refine ⟨fun h0 => (by rw [h0] at hr; cases hr), fun j hj => ?_⟩
    by_cases hji : j = i
    · subst hji
      exact hy.wpOp hi hS ⟨fun _ => hS, H⟩
    · have hne : j ≠ st := fun e => waits_not hw hr (e ▸ hj)
      obtain ⟨hun, oj, hoj, hall⟩ := mem_ready.1 hj
      have hno : ∀ e ∈ oj.after, Region.binds md e = true → e.on ≠ i := fun e he hb hei => by
        have h3 := hall e he hb
        have h4 := (mem_ready.1 hr).1
        rw [hei] at h3
        rcases Nat.lt_or_ge i listed.size with hl | hl
        · simp [hl] at h3 h4
          rw [h3] at h4; cases h4
        · simp [Array.getElem?_eq_none hl] at h3
      have hs := Region.noSelect_spec hsel
      have h2 := wpOp_putIf hoj (hap j oj hoj hji hun hno) (fun cs b => hs i oi cs b hi) (fun cs b => hs j oj cs b hoj) hQ hy (H.2 j (ready_mono hj hji))
      refine wpOp_mono (fun a' w' k => ⟨k.2.1, ih _ a' w' (fun m om hm hmi hmu hmn => ?_) (ready_mono hr (Ne.symm hji)) k.1 (k.2.1 hne) ?_⟩) h2
      · refine hap m om hm hmi ?_ hmn
        by_cases hjm : j = m
        · subst hjm; exact hun
        · rwa [getD_set_ne true hjm] at hmu
      · rw [Array.setIfInBounds_comm _ _ hji]
        exact k.2.2

theorem late_in {i : Nat} {oi : Oper} {v : Value} {fuel : Nat} {listed : Array Bool} {a : Act} {w : World} (hi : ops.toList[i]? = some oi)
    (hk : (waitsB md ops st i && (Region.noSelect ops && Region.free md ops listed i && (Region.ready md ops listed).contains i)) = true)
    (hQ : ∀ c a w, Q (.panic c) (a.put oi.dst v) w → Q (.panic c) a w) (hw : Region.wanted oi (yielded ops a.tmps) = true) (hy : ∀ w, S w → (execOp a.eval oi).run P w = .ok (.value v) w) (hS : S w)
    (h : wpAnyL P md ops Q S st fuel (listed.setIfInBounds i true) (a.put oi.dst v) w) : wpAnyL P md ops Q S st (fuel + 1) listed a w := by
  simp only [Bool.and_eq_true] at hk
  rw [Array.getElem?_toList] at hi
  exact late_first hi hk.1 hk.2.1.1 hQ fuel listed a w (Region.free_spec hi hk.2.1.2) (by simpa using hk.2.2) (.inl ⟨hw, hy⟩) hS h

theorem late_ready {rs : List Nat} {fuel : Nat} {listed : Array Bool} {a : Act} {w : World} (hr : Region.ready md ops listed = rs) (hne : rs ≠ [])
    (h : ∀ i ∈ rs, wpOp P ops Q i (fun a' w' => (i ≠ st → S w') ∧ wpAnyL P md ops Q S st fuel (listed.setIfInBounds i true) a' w') a w) : wpAnyL P md ops Q S st (fuel + 1) listed a w :=
  ⟨fun h0 => absurd (hr ▸ h0) hne, hr ▸ h⟩

theorem late_one {i : Nat} {oi : Oper} {fuel : Nat} {listed : Array Bool} {a : Act} {w : World} (hi : ops.toList[i]? = some oi) (hr : Region.ready md ops listed = [i])
    (h : ∀ K' : Act → World → Prop, Shut (∀ a w, S w → (S w → wpAnyL P md ops Q S st fuel (listed.setIfInBounds i true) a w) → K' a w) → if Region.wanted oi (yielded ops a.tmps) = true then Oper.wp P oi a w K' Q else K' (a.put oi.dst undef) w) :
    wpAnyL P md ops Q S st (fuel + 1) listed a w :=
  late_ready hr (by simp) (fun j hj => by
    obtain rfl := List.mem_singleton.1 hj
    exact wpOp_step (by rwa [Array.getElem?_toList] at hi) (fun K' hK => h K' (fun a w hS hW => hK a w ⟨fun _ => hS, hW hS⟩)))

theorem late_last {i : Nat} {oi : Oper} {fuel : Nat} {listed : Array Bool} {a : Act} {w : World} (hi : ops.toList[i]? = some oi) (hr : Region.ready md ops listed = [i]) (hst : i = st)
    (h : ∀ K' : Act → World → Prop, Shut (∀ a w, wpAnyL P md ops Q S st fuel (listed.setIfInBounds i true) a w → K' a w) → if Region.wanted oi (yielded ops a.tmps) = true then Oper.wp P oi a w K' Q else K' (a.put oi.dst undef) w) :
    wpAnyL P md ops Q S st (fuel + 1) listed a w :=
  late_ready hr (by simp) (fun j hj => by
    obtain rfl := List.mem_singleton.1 hj
    exact wpOp_step (by rwa [Array.getElem?_toList] at hi) (fun K' hK => h K' (fun a w hW => hK a w ⟨fun hn => absurd hst hn, hW⟩)))

theorem late_done {listed : Array Bool} {a : Act} {w : World} (hr : Region.ready md ops listed = []) (h : Q .normal a w) (fuel : Nat) : wpAnyL P md ops Q S st fuel listed a w := by
  cases fuel with
  | zero => exact ⟨hr, h⟩
  | succ fuel => exact ⟨fun _ => h, by rw [hr]; simp⟩

theorem late_start {id : Nat} {a : Act} {w : World} (st : Nat) (hm : P.follows .mixedOrders = true) (hS : S w.drew)
    (h : S w.drew → wpAnyL P .any ops Q S st ops.size (Array.replicate ops.size false) a w.drew) : (Code.region id ops true).wp P Q a w :=
  wp_region_any hm (late_any _ _ _ _ (h hS))

end

end Go.Proofs.Ytebebcomhdjihaa

namespace Go.Proofs.Ytebebcomhdjihaa
open Go.RowKit
set_option linter.unusedVariables false

theorem grT {w w1 w2 : World} {r : Option Nat} (h : w.grownBy w1 r) (k : w1.grownBy w2 r) : w.grownBy w2 r :=
  ⟨k.os.trans h.os, k.tape.trans h.tape, k.output.trans h.output, Nat.le_trans h.size k.size, fun i hi hne => (k.block i (Nat.lt_of_lt_of_le hi h.size) hne).trans (h.block i hi hne)⟩

theorem grF {w w1 w2 : World} {r s : Option Nat} (h : w.grownBy w1 r) (k : w1.grownBy w2 s) (hs : ∀ g, s = some g → w.heap.size ≤ g) : w.grownBy w2 r :=
  ⟨k.os.trans h.os, k.tape.trans h.tape, k.output.trans h.output, Nat.le_trans h.size k.size, fun i hi hne => (k.block i (Nat.lt_of_lt_of_le hi h.size) (fun e => by have := hs i e.symm; omega)).trans (h.block i hi hne)⟩

def SR (w : World) (R P : Nat) (wr : World) : Prop := Rd wr R P ∧ w.grownBy wr (some R) ∧ R < w.heap.size

theorem SR.start {w : World} {R P : Nat} (h : Rd w R P) : SR w R P w := ⟨h, World.grownBy.refl _ _, h.lt⟩

theorem SR.picked {w wr w' : World} {R P Q : Nat} (h : SR w R P wr) (k : Picked R Q wr w') : SR w R Q w' := ⟨k.rd, grT h.2.1 k.grown, h.2.2⟩

theorem SR.alloc {w wr : World} {R P : Nat} (h : SR w R P wr) (o : Obj) : SR w R P (wr.alloc o) :=
  ⟨h.1.keep (by simp) (fun b hb => Below.heap_alloc wr _ b hb), grT h.2.1 (World.grownBy_alloc _ _ _), h.2.2⟩

theorem SR.drew {w wr : World} {R P : Nat} (h : SR w R P wr) : SR w R P wr.drew := ⟨h.1, ⟨h.2.1.os, h.2.1.tape, h.2.1.output, h.2.1.size, h.2.1.block⟩, h.2.2⟩

theorem SR.mono {w wr : World} {R P Q : Nat} (h : SR w R P wr) (hPQ : P ≤ Q) : SR w R Q wr := ⟨h.1.mono hPQ, h.2⟩

theorem SR.grown {w wr w' : World} {R P : Nat} {row : Option Nat} (h : SR w R P wr) (hg : wr.grownBy w' row) (hr : ∀ g, row = some g → w.heap.size ≤ g) : SR w R P w' :=
  ⟨h.1.grown hg (fun g hg' => by have := hr g hg'; have := h.2.2; omega), grF h.2.1 hg hr, h.2.2⟩

theorem SR.below {w wr w' : World} {R P : Nat} (h : SR w R P wr) (hb : Below w.heap.size wr w') : SR w R P w' :=
  ⟨by
    obtain ⟨A, n, cap, p, h1, h2, h3, h4⟩ := h.1
    have hs := h.2.1.size
    have hR := h.2.2
    refine ⟨A, n, cap, p, (hb.block R (by omega)).trans h1, h2, h3, fun h0 => ?_⟩
    obtain ⟨b, off, e, hbR, hbl, hc⟩ := h4 h0
    refine ⟨b, off, e, hbR, Nat.lt_of_lt_of_le hbl hb.size, fun i hi => ?_⟩
    obtain ⟨v, hv, hcv⟩ := hc i hi
    exact ⟨v, hv, (World.cell?_of_block (a := ⟨b, off + i, none⟩) (hb.block b (by omega))).trans hcv⟩,
   ⟨hb.os.trans h.2.1.os, hb.tape.trans h.2.1.tape, hb.output.trans h.2.1.output, Nat.le_trans h.2.1.size hb.size, fun i hi hne => (hb.block i hi).trans (h.2.1.block i hi hne)⟩, h.2.2⟩

theorem SR.size {w wr : World} {R P : Nat} (h : SR w R P wr) : w.heap.size ≤ wr.heap.size := h.2.1.size

theorem SR.start' {w wr : World} {R P : Nat} (h : SR w R P wr) : SR wr R P wr := SR.start h.1

theorem SR.block {w wr : World} {R P g : Nat} (h : SR w R P wr) (hg : g < w.heap.size) (hne : g ≠ R) : wr.heap[g]? = w.heap[g]? :=
  h.2.1.block g hg (fun e => hne (by injection e))

end Go.Proofs.Ytebebcomhdjihaa

namespace Go.Proofs.Ytebebcomhdjihaa
open Go.RowKit
set_option linter.unusedVariables false

def Stay (w w' : World) : Prop := w.heap.size ≤ w'.heap.size ∧ ∀ (g : Nat) (cur : Array Value), w.heap[g]? = some (Obj.cells cur 112 (0, 0)) → w'.heap[g]? = w.heap[g]?

theorem Stay.refl (w : World) : Stay w w := ⟨Nat.le_refl _, fun _ _ _ => rfl⟩

theorem Stay.trans {w w1 w2 : World} (h : Stay w w1) (k : Stay w1 w2) : Stay w w2 :=
  ⟨Nat.le_trans h.1 k.1, fun g cur hg => (k.2 g cur ((h.2 g cur hg).trans hg)).trans (h.2 g cur hg)⟩

theorem heap_lt {w : World} {g : Nat} {o : Obj} (h : w.heap[g]? = some o) : g < w.heap.size := (Array.getElem?_eq_some_iff.1 h).1

theorem Stay.grown {w w' : World} {row : Option Nat} (hg : w.grownBy w' row) (hr : ∀ (g : Nat) (cur : Array Value), row = some g → w.heap[g]? ≠ some (Obj.cells cur 112 (0, 0))) : Stay w w' :=
  ⟨hg.size, fun g cur h => hg.block g (heap_lt h) (fun e => hr g cur e.symm h)⟩

theorem Stay.below {w w' : World} (h : Below w.heap.size w w') : Stay w w' := ⟨h.size, fun g cur hg => h.block g (heap_lt hg)⟩

theorem Stay.picked {w w' : World} {R P Q : Nat} (hr : Rd w R Q) (k : Picked R P w w') : Stay w w' := by
  obtain ⟨A, n, cap, p, h1, -⟩ := hr
  refine Stay.grown k.grown (fun g cur e hg => ?_)
  injection e with e
  subst e
  unfold Blk at h1
  rw [h1] at hg
  injection hg with hg
  injection hg with h2 h3
  exact absurd h3 (by decide)

def SOwn (w : World) (base : Nat) (v : Value) (us : List Value) : Prop := w.ownsRow base 96 1 v us.length us

def PIn (w : World) (base : Nat) (us : List Value) (ts : List Tm) : Prop := us.length = ts.length ∧ ∀ (i : Nat) (u : Value) (T : Tm), us[i]? = some u → ts[i]? = some T → MOwn w base u (encT T)

theorem PIn.nil (w : World) (base : Nat) : PIn w base [] [] := ⟨rfl, fun i u T hu _ => by simp at hu⟩

theorem PIn.take {w : World} {base : Nat} {us : List Value} {ts : List Tm} (h : PIn w base us ts) (n : Nat) : PIn w base (us.take n) (ts.take n) := by
  refine ⟨by simp [h.1], fun i x X hx hX => ?_⟩
  rw [List.getElem?_take] at hx hX
  split at hx
  · next hi => rw [if_pos hi] at hX; exact h.2 i x X hx hX
  · cases hx

theorem PIn.drop {w : World} {base : Nat} {us : List Value} {ts : List Tm} (h : PIn w base us ts) (n : Nat) : PIn w base (us.drop n) (ts.drop n) := by
  refine ⟨by simp [h.1], fun i x X hx hX => ?_⟩
  rw [List.getElem?_drop] at hx hX
  exact h.2 _ x X hx hX

theorem PIn.set {w : World} {base : Nat} {us : List Value} {ts : List Tm} (h : PIn w base us ts) {k : Nat} {u : Value} {T : Tm} (hk : MOwn w base u (encT T)) : PIn w base (us.set k u) (ts.set k T) := by
  refine ⟨by simp [h.1], fun i x X hx hX => ?_⟩
  rw [List.getElem?_set] at hx hX
  split at hx
  · next hi =>
    rw [if_pos hi] at hX
    split at hx
    · next h1 =>
      split at hX
      · obtain rfl := Option.some.inj hx
        obtain rfl := Option.some.inj hX
        exact hk
      · cases hX
    · cases hx
  · next hi => rw [if_neg hi] at hX; exact h.2 i x X hx hX

theorem PIn.mono {w : World} {base base' : Nat} {us : List Value} {ts : List Tm} (h : PIn w base us ts) (hb : base' ≤ base) : PIn w base' us ts := ⟨h.1, fun i u T hu hT => (h.2 i u T hu hT).base hb⟩

theorem SOwn.form {w : World} {base : Nat} {v : Value} {us : List Value} (h : SOwn w base v us) (h0 : 0 < us.length) : ∃ g c, v = .slice (some ⟨g, 0, none⟩) us.length c ∧ base ≤ g ∧ g < w.heap.size ∧ us.length ≤ c ∧ c ≤ 9223372036854775807 := by
  rcases h.2 with ⟨-, hz⟩ | ⟨g, cap, cur, rfl, hb, hg, h1, h2, -⟩
  · omega
  · exact ⟨g, cap, rfl, hb, heap_lt hg, h1, by rw [maxLen_is] at h2; exact h2⟩

theorem SOwn.cell {w : World} {base g n c : Nat} {us : List Value} (h : SOwn w base (.slice (some ⟨g, 0, none⟩) n c) us) {k : Nat} {u : Value} (hu : us[k]? = some u) : w.cell? ⟨g, k, none⟩ = some u := by
  have hk : k < us.length := (List.getElem?_eq_some_iff.1 hu).1
  have hn : n = us.length := by
    rcases h.2 with ⟨e, -⟩ | ⟨g', cap, cur, e, -⟩
    · cases e
    · injection e with e1 e2 e3
  subst hn
  have := World.ownsRow.cellAt h k (by omega)
  rw [this]; exact hu

theorem SOwn.keep {w w' : World} {base : Nat} {v : Value} {us : List Value} (h : SOwn w base v us) (hs : ∀ g, v.ownBlock = some g → w'.heap[g]? = w.heap[g]?) : SOwn w' base v us := by
  refine ⟨h.1, ?_⟩
  rcases h.2 with hn | ⟨g, cap, cur, rfl, hb, hg, rest⟩
  · exact .inl hn
  · exact .inr ⟨g, cap, cur, rfl, hb, (hs g rfl).trans hg, rest⟩

theorem SOwn.ge {w : World} {base : Nat} {v : Value} {us : List Value} (h : SOwn w base v us) : ∀ g, v.ownBlock = some g → base ≤ g ∧ g < w.heap.size := World.ownsRow.lt h

theorem SOwn.sr {w w' : World} {R P base : Nat} {v : Value} {us : List Value} (h : SOwn w base v us) (k : SR w R P w') (hb : R < base) : SOwn w' base v us :=
  h.keep (fun g hg => by have := h.ge g hg; exact k.block this.2 (by omega))

theorem MOwn.sr {w w' : World} {R P base : Nat} {v : Value} {ms : List Mk} (h : MOwn w base v ms) (k : SR w R P w') (hb : R < base) : MOwn w' base v ms := by
  refine GOwn.keep h (SameAt.of_grown k.2.1 ?_)
  rcases hv : v.ownBlock with _ | g
  · exact .inl rfl
  · refine .inr fun e => ?_
    have := (GOwn.ge h g hv).1
    injection e with e
    omega

theorem PIn.sr {w w' : World} {R P base : Nat} {us : List Value} {ts : List Tm} (h : PIn w base us ts) (k : SR w R P w') (hb : R < base) : PIn w' base us ts := ⟨h.1, fun i u T hu hT => (h.2 i u T hu hT).sr k hb⟩

def Pile (w : World) (R Q : Nat) (v : Value) (us : List Value) (ts : List Tm) (wr : World) : Prop := SR w R Q wr ∧ SOwn wr w.heap.size v us ∧ PIn wr w.heap.size us ts

theorem Pile.sr {w wr w' : World} {R Q Q' : Nat} {v : Value} {us : List Value} {ts : List Tm} (h : Pile w R Q v us ts wr) (k : SR wr R Q' w') : Pile w R Q' v us ts w' :=
  ⟨⟨k.1, grT h.1.2.1 k.2.1, h.1.2.2⟩, h.2.1.sr k h.1.2.2, h.2.2.sr k h.1.2.2⟩

theorem Pile.picked {w wr w' : World} {R Q Q' : Nat} {v : Value} {us : List Value} {ts : List Tm} (h : Pile w R Q v us ts wr) (k : Picked R Q' wr w') : Pile w R Q' v us ts w' := h.sr (h.1.start'.picked k)

theorem Pile.alloc {w wr : World} {R Q : Nat} {v : Value} {us : List Value} {ts : List Tm} (h : Pile w R Q v us ts wr) (o : Obj) : Pile w R Q v us ts (wr.alloc o) := h.sr (h.1.start'.alloc o)

theorem Pile.rd {w wr : World} {R Q : Nat} {v : Value} {us : List Value} {ts : List Tm} (h : Pile w R Q v us ts wr) : Rd wr R Q := h.1.1

theorem SOwn.base {w : World} {base base' : Nat} {v : Value} {us : List Value} (h : SOwn w base v us) (hb : base' ≤ base) : SOwn w base' v us := by
  refine ⟨h.1, ?_⟩
  rcases h.2 with hn | ⟨g, cap, cur, rfl, hb', rest⟩
  · exact .inl hn
  · exact .inr ⟨g, cap, cur, rfl, Nat.le_trans hb hb', rest⟩

theorem Pile.cells {w wr X : World} {R Q Q' g m c i : Nat} {us : List Value} {ts : List Tm} {u : Value} (h : Pile w R Q (.slice (some ⟨g, 0, none⟩) m c) us ts wr) (k : SR wr R Q' X) (hu : us[i]? = some u) : X.cell? ⟨g, i, none⟩ = some u := (h.2.1.sr k h.1.2.2).cell hu

theorem MOwn.form {w : World} {base : Nat} {v : Value} {ms : List Mk} (h : MOwn w base v ms) (h0 : 0 < ms.length) : ∃ g c, v = .slice (some ⟨g, 0, none⟩) ms.length c ∧ base ≤ g ∧ g < w.heap.size ∧ ms.length ≤ c ∧ c ≤ 9223372036854775807 := by
  rcases h.2 with ⟨-, hz⟩ | ⟨g, cap, cur, rfl, hb, hg, h1, h2, -⟩
  · omega
  · exact ⟨g, cap, rfl, hb, heap_lt hg, h1, by rw [maxLen_is] at h2; exact h2⟩

theorem odd0_any (w : World) (R P : Nat) (n : Int) (hn : n ≤ 0) :
    Calls Try.prog 59 #[.pointer (some ⟨R, 0, none⟩), .int .i64 n] w fun e w' => e = .returned (.bool false) ∧ w = w' := by
  go_enter Try.func59, Try.ntmps59
  go_wp2
  go_ret
  exact ⟨rfl, rfl⟩

end Go.Proofs.Ytebebcomhdjihaa

namespace Go.Proofs.Ytebebcomhdjihaa
open Go.RowKit
set_option linter.unusedVariables false

theorem SR.thru15 {w w1 w2 : World} {R P Q : Nat} (h : SR w R P w1) (k : SR w1 R Q w2) : SR w R Q w2 := ⟨k.1, grT h.2.1 k.2.1, h.2.2⟩

theorem Blk.srd15 {w w' : World} {R P g : Nat} {t : TypeId} {cs : Array Value} (h : Blk w g t cs) (k : SR w R P w') (hne : g ≠ R) : Blk w' g t cs := h.off k.2.1 (fun e => hne (Option.some.inj e).symm)

theorem GOwn.srd15 {α : Type} {e : TypeId} {c : Nat} {enc : α → List Value} {w w' : World} {R P base : Nat} {v : Value} {xs : List α} (h : GOwn e c enc w base v xs) (k : SR w R P w') (hb : R < base) : GOwn e c enc w' base v xs :=
  h.off k.2.1 (.inr (fun e => by have := (h.ge _ e).1; omega))

theorem SR.pk15 {w w' : World} {R Q : Nat} (k : Picked R Q w w') (hR : R < w.heap.size) : SR w R Q w' := ⟨k.rd, k.grown, hR⟩

theorem odd_all (w : World) (R P : Nat) (n : Int) (hn2 : n ≤ 1000000) (hP : P ≤ 1000000) (h : Rd w R P) :
    Calls Try.prog 59 #[.pointer (some ⟨R, 0, none⟩), .int .i64 n] w (fun e w' => ∃ b : Bool, e = .returned (.bool b) ∧ SR w R (P + 1) w') := by
  by_cases hn : 1 ≤ n
  · refine (odd_any w R P n hn hn2 hP h).mono ?_
    rintro e w' ⟨b, rfl, k⟩
    exact ⟨b, rfl, SR.pk15 k h.lt⟩
  · refine (odd0_any w R P n (by omega)).mono ?_
    rintro e w' ⟨rfl, rfl⟩
    exact ⟨false, rfl, (SR.start h).mono (by omega)⟩

structure PlaR (w : World) (R P : Nat) (pv pu v u : Value) (qs : List Qt) (ss : List Int) (wr : World) : Prop where
  sr : SR w R P wr
  res : Blk wr w.heap.size 26 #[.slice none 0 0, .slice none 0 0]
  pb : Blk wr (w.heap.size + 1) 26 #[pv, pu]
  gr : ∃ gs : List Int, gs.length = 4 ∧ IOwn wr (w.heap.size + 1 + 1) (.slice (some ⟨w.heap.size + 1 + 1, 0, none⟩) 4 4) gs
  oq : QOwn wr (w.heap.size + 3) v qs
  oi : GOwn 3 1 iC wr (w.heap.size + 3) u ss
  dis : ∀ g, v.ownBlock = some g → u.ownBlock ≠ some g

theorem PlaR.dr {w wr w' : World} {R P Q : Nat} {pv pu v u : Value} {qs : List Qt} {ss : List Int} (h : PlaR w R P pv pu v u qs ss wr) (k : SR wr R Q w') : PlaR w R Q pv pu v u qs ss w' := by
  have hR := h.sr.2.2
  obtain ⟨gs, g1, g2⟩ := h.gr
  exact ⟨h.sr.thru15 k, h.res.srd15 k (by omega), h.pb.srd15 k (by omega), ⟨gs, g1, iown_g.2 ((iown_g.1 g2).srd15 k (by omega))⟩, h.oq.srd15 k (by omega), h.oi.srd15 k (by omega), h.dis⟩

theorem PlaR.picked {w wr w' : World} {R P Q : Nat} {pv pu v u : Value} {qs : List Qt} {ss : List Int} (h : PlaR w R P pv pu v u qs ss wr) (k : Picked R Q wr w') : PlaR w R Q pv pu v u qs ss w' := h.dr (SR.pk15 k h.sr.1.lt)

theorem PlaR.below {w wr w' : World} {R P : Nat} {pv pu v u : Value} {qs : List Qt} {ss : List Int} (h : PlaR w R P pv pu v u qs ss wr) (k : Below wr.heap.size wr w') : PlaR w R P pv pu v u qs ss w' := by
  obtain ⟨gs, g1, g2⟩ := h.gr
  exact ⟨h.sr.below (k.mono h.sr.size), h.res.below15 k, h.pb.below15 k, ⟨gs, g1, g2.keep (SameAt.of_below k)⟩, h.oq.below k, h.oi.below k, h.dis⟩

theorem PlaR.alloc {w wr : World} {R P : Nat} {pv pu v u : Value} {qs : List Qt} {ss : List Int} (h : PlaR w R P pv pu v u qs ss wr) (o : Obj) : PlaR w R P pv pu v u qs ss (wr.alloc o) := h.below ((Below.refl _ _).alloc (Nat.le_refl _) _)

theorem PlaR.drew {w wr : World} {R P : Nat} {pv pu v u : Value} {qs : List Qt} {ss : List Int} (h : PlaR w R P pv pu v u qs ss wr) : PlaR w R P pv pu v u qs ss wr.drew := h.below (Below.refl _ _).drew

theorem PlaR.mono {w wr : World} {R P Q : Nat} {pv pu v u : Value} {qs : List Qt} {ss : List Int} (h : PlaR w R P pv pu v u qs ss wr) (hPQ : P ≤ Q) : PlaR w R Q pv pu v u qs ss wr := ⟨h.sr.mono hPQ, h.res, h.pb, h.gr, h.oq, h.oi, h.dis⟩

theorem PlaR.grain {w wr : World} {R P : Nat} {pv pu v u : Value} {qs : List Qt} {ss : List Int} (h : PlaR w R P pv pu v u qs ss wr) {k : Nat} (hk : k < 4) : (∃ x, wr.cell? ⟨w.heap.size + 1 + 1, k, none⟩ = some (.int .i64 x)) ∧ wr.frozen? ⟨w.heap.size + 1 + 1, k, none⟩ = false := by
  obtain ⟨gs, g1, g2⟩ := h.gr
  exact ⟨⟨gs[k]'(by omega), g2.cellk (List.getElem?_eq_getElem (by omega))⟩, g2.frz g1 k⟩

theorem PlaR.far {w wr w' : World} {R P g : Nat} {pv pu v u : Value} {qs : List Qt} {ss : List Int} (h : PlaR w R P pv pu v u qs ss wr) (hg : wr.grownBy w' (some g)) (h1 : (w.heap.size + 1 + 1) < g) (h2 : v.ownBlock ≠ some g) (h3 : u.ownBlock ≠ some g) : PlaR w R P pv pu v u qs ss w' := by
  obtain ⟨gs, g1, g2⟩ := h.gr
  exact ⟨h.sr.grown hg (fun j hj => by have := Option.some.inj hj; omega), h.res.off hg (fun e => by have := Option.some.inj e; omega), h.pb.off hg (fun e => by have := Option.some.inj e; omega), ⟨gs, g1, g2.keep (SameAt.of_grown hg (.inr (fun e => by have h9 : w.heap.size + 1 + 1 = g := Option.some.inj e; omega)))⟩, h.oq.off hg (.inr h2), h.oi.off hg (.inr h3), h.dis⟩

theorem PlaR.lay {w wr : World} {R P : Nat} {pv pu v u : Value} {qs : List Qt} {ss : List Int} (h : PlaR w R P pv pu v u qs ss wr) (k : Nat) (x : Int) : PlaR w R P pv pu v u qs ss (wr.setCell ⟨w.heap.size + 1 + 1, k, none⟩ (.int .i64 x)) := by
  obtain ⟨gs, g1, g2⟩ := h.gr
  obtain ⟨g3, hg⟩ := g2.set_ g1 k x
  exact ⟨h.sr.grown hg (fun j hj => by have := Option.some.inj hj; omega), h.res.off hg (fun e => by have := Option.some.inj e; omega), h.pb.off hg (fun e => by have := Option.some.inj e; omega), ⟨_, by rw [List.length_set]; exact g1, g3⟩, h.oq.off hg (.inr (fun e => by have := (h.oq.ge _ e).1; omega)), h.oi.off hg (.inr (fun e => by have := (h.oi.ge _ e).1; omega)), h.dis⟩

theorem PlaR.put {w wr wz : World} {R P : Nat} {pv pu pv' pu' v u : Value} {qs : List Qt} {ss : List Int} (h : PlaR w R P pv pu v u qs ss wr) (hg : wr.grownBy wz (some (w.heap.size + 1))) (hb : Blk wz (w.heap.size + 1) 26 #[pv', pu']) : PlaR w R P pv' pu' v u qs ss wz := by
  obtain ⟨gs, g1, g2⟩ := h.gr
  exact ⟨h.sr.grown hg (fun j hj => by have := Option.some.inj hj; omega), h.res.off hg (fun e => by have := Option.some.inj e; omega), hb, ⟨gs, g1, g2.keep (SameAt.of_grown hg (.inr (fun e => by have h9 : w.heap.size + 1 + 1 = w.heap.size + 1 := Option.some.inj e; omega)))⟩, h.oq.off hg (.inr (fun e => by have := (h.oq.ge _ e).1; omega)), h.oi.off hg (.inr (fun e => by have := (h.oi.ge _ e).1; omega)), h.dis⟩

theorem PlaR.put0 {w wr : World} {R P : Nat} {pv pu v u : Value} {qs : List Qt} {ss : List Int} (h : PlaR w R P pv pu v u qs ss wr) (x : Value) : PlaR w R P x pu v u qs ss (wr.setCell ⟨w.heap.size + 1, 0, none⟩ x) := h.put (set1_grown _ _ _ _) (h.pb.set_ 0 x)

theorem PlaR.put1 {w wr : World} {R P : Nat} {pv pu v u : Value} {qs : List Qt} {ss : List Int} (h : PlaR w R P pv pu v u qs ss wr) (x : Value) : PlaR w R P pv x v u qs ss (wr.setCell ⟨w.heap.size + 1, 1, none⟩ x) := h.put (set1_grown _ _ _ _) (h.pb.set_ 1 x)

theorem PlaR.cells {w wr : World} {R P : Nat} {pv pu v u : Value} {qs : List Qt} {ss : List Int} (h : PlaR w R P pv pu v u qs ss wr) : (wr.cell? ⟨w.heap.size + 1, 0, none⟩ = some pv ∧ wr.cell? ⟨w.heap.size + 1, 1, none⟩ = some pu) ∧ wr.frozen? ⟨w.heap.size + 1, 0, none⟩ = false ∧ wr.frozen? ⟨w.heap.size + 1, 1, none⟩ = false := ⟨⟨h.pb.cell 0, h.pb.cell 1⟩, h.pb.frozen 0, h.pb.frozen 1⟩

theorem litq15 (w : World) (q : Qt) : QRd (w.alloc (.cells #[.int .i64 q.1, .int .i64 q.2] 64)) (.slice (some ⟨w.heap.size, 0, none⟩) 1 1) [q] := lit_src (e := 64) (enc := qC) (x := q) rfl (heap_alloc_new w _)

theorem liti15 (w : World) (x : Int) : GRd 1 iC (w.alloc (.cells #[.int .i64 x] 3)) (.slice (some ⟨w.heap.size, 0, none⟩) 1 1) [x] := lit_src (e := 3) (enc := iC) (x := x) rfl (heap_alloc_new w _)

set_option maxRecDepth 100000 in
theorem PlaR.addq {w wr : World} {R P : Nat} {pv pu v u : Value} {qs : List Qt} {ss : List Int} (h : PlaR w R P pv pu v u qs ss wr) (q : Qt) (hl : qs.length ≤ 1000) (ty : TypeId) :
    ∃ A n c w', (Builtin.append_ #[23, 23] ty #[v, .slice (some ⟨wr.heap.size, 0, none⟩) 1 1]).run Try.prog (wr.alloc (.cells #[.int .i64 q.1, .int .i64 q.2] 64)) = .ok (.slice A n c) w' ∧ PlaR w R P pv pu (.slice A n c) u (qs ++ [q]) ss w' ∧ wr.grownBy w' v.ownBlock ∧ ((Value.slice A n c).ownBlock = v.ownBlock ∨ (Value.slice A n c).ownBlock = some (wr.heap.size + 1)) := by
  obtain ⟨iq, hiq, hq0, hq1, hq2⟩ := info_parts Try_qinfo15
  have ha := h.alloc (.cells #[.int .i64 q.1, .int .i64 q.2] 64)
  have hsz : w.heap.size + 3 ≤ wr.heap.size := by
    obtain ⟨gs, g1, g2⟩ := h.gr
    have : w.heap.size + 1 + 1 < wr.heap.size := (g2.ge _ rfl).2
    omega
  obtain ⟨p2, w', rn, oo, gr, ne⟩ := run_app_g (t := 23) (ty := ty) rfl hiq hq0 hq1 hq2 rfl (by decide) qC_len ha.oq (litq15 wr q) (.inr ⟨_, _, _, rfl⟩) (qC15_one _) (by simp; omega) (by decide) (by rw [World.size_alloc]; omega)
  obtain ⟨A, n, c, rfl⟩ : ∃ A n c, p2 = .slice A n c := by obtain ⟨x1, x2, x3, -⟩ := (oo.rd qC_len).form; exact ⟨_, _, _, x3⟩
  rw [World.size_alloc] at ne
  have hge := ha.oq.ge
  obtain ⟨gs, g1, g2⟩ := ha.gr
  refine ⟨A, n, c, w', rn, ⟨ha.sr.grown gr (fun g hg => by have := (hge g hg).1; omega), ha.res.off gr (fun e => by have := (hge _ e).1; omega), ha.pb.off gr (fun e => by have := (hge _ e).1; omega), ⟨gs, g1, g2.keep (SameAt.of_grown gr (.inr (fun e => by have h9 : w.heap.size + 3 ≤ w.heap.size + 1 + 1 := (hge _ e.symm).1; omega)))⟩, oo, ha.oi.off gr (by rcases hc : u.ownBlock with _ | m; exact .inl rfl; exact .inr (fun e => h.dis m e.symm hc)), fun g hg e => ?_⟩, grown_after (w := wr) ((Below.refl _ wr).alloc (Nat.le_refl _) _) gr, ne⟩
  rcases ne with h2 | h2
  · exact h.dis g (h2.symm.trans hg) e
  · rw [hg] at h2; have h3 := Option.some.inj h2; have := (h.oi.ge g e).2; omega

set_option maxRecDepth 100000 in
theorem PlaR.addi {w wr : World} {R P : Nat} {pv pu v u : Value} {qs : List Qt} {ss : List Int} (h : PlaR w R P pv pu v u qs ss wr) (x : Int) (hl : ss.length ≤ 1000) (ty : TypeId) :
    ∃ A n c w', (Builtin.append_ #[24, 24] ty #[u, .slice (some ⟨wr.heap.size, 0, none⟩) 1 1]).run Try.prog (wr.alloc (.cells #[.int .i64 x] 3)) = .ok (.slice A n c) w' ∧ PlaR w R P pv pu v (.slice A n c) qs (ss ++ [x]) w' ∧ wr.grownBy w' u.ownBlock ∧ ((Value.slice A n c).ownBlock = u.ownBlock ∨ (Value.slice A n c).ownBlock = some (wr.heap.size + 1)) := by
  obtain ⟨ii, hii, hi0, hi1, hi2⟩ := info_parts Try_intinfo
  have ha := h.alloc (.cells #[.int .i64 x] 3)
  have hsz : w.heap.size + 3 ≤ wr.heap.size := by
    obtain ⟨gs, g1, g2⟩ := h.gr
    have : w.heap.size + 1 + 1 < wr.heap.size := (g2.ge _ rfl).2
    omega
  obtain ⟨p2, w', rn, oo, gr, ne⟩ := run_app_g (t := 24) (ty := ty) rfl hii hi0 hi1 hi2 rfl (by decide) iC_len ha.oi (liti15 wr x) (.inr ⟨_, _, _, rfl⟩) (iC_one _) (by simp; omega) (by decide) (by rw [World.size_alloc]; omega)
  obtain ⟨A, n, c, rfl⟩ : ∃ A n c, p2 = .slice A n c := by obtain ⟨x1, x2, x3, -⟩ := (oo.rd iC_len).form; exact ⟨_, _, _, x3⟩
  rw [World.size_alloc] at ne
  have hge := ha.oi.ge
  obtain ⟨gs, g1, g2⟩ := ha.gr
  refine ⟨A, n, c, w', rn, ⟨ha.sr.grown gr (fun g hg => by have := (hge g hg).1; omega), ha.res.off gr (fun e => by have := (hge _ e).1; omega), ha.pb.off gr (fun e => by have := (hge _ e).1; omega), ⟨gs, g1, g2.keep (SameAt.of_grown gr (.inr (fun e => by have h9 : w.heap.size + 3 ≤ w.heap.size + 1 + 1 := (hge _ e.symm).1; omega)))⟩, ha.oq.off gr (by rcases hc : v.ownBlock with _ | m; exact .inl rfl; exact .inr (fun e => h.dis m hc e.symm)), oo, fun g hg e => ?_⟩, grown_after (w := wr) ((Below.refl _ wr).alloc (Nat.le_refl _) _) gr, ne⟩
  rcases ne with h2 | h2
  · exact h.dis g hg (h2.symm.trans e)
  · rw [e] at h2; have h3 := Option.some.inj h2; have := (h.oq.ge g hg).2; omega

def PlaL (w : World) (R P : Nat) (pv pu v u : Value) (qs : List Qt) (ss : List Int) (b : Nat) (q : Qt) (wr : World) : Prop :=
  PlaR w R P pv pu v u qs ss wr ∧ Blk wr b 64 #[.int .i64 q.1, .int .i64 q.2] ∧ (w.heap.size + 1 + 1) < b ∧ v.ownBlock ≠ some b ∧ u.ownBlock ≠ some b

theorem PlaL.cells {w wr : World} {R P b : Nat} {pv pu v u : Value} {qs : List Qt} {ss : List Int} {q : Qt} (h : PlaL w R P pv pu v u qs ss b q wr) : wr.cell? ⟨b, 0, none⟩ = some (.int .i64 q.1) ∧ wr.cell? ⟨b, 1, none⟩ = some (.int .i64 q.2) ∧ wr.frozen? ⟨b, 0, none⟩ = false ∧ wr.frozen? ⟨b, 1, none⟩ = false := ⟨h.2.1.cell 0, h.2.1.cell 1, h.2.1.frozen 0, h.2.1.frozen 1⟩

theorem PlaL.price {w wr : World} {R P b : Nat} {pv pu v u : Value} {qs : List Qt} {ss : List Int} {q : Qt} (h : PlaL w R P pv pu v u qs ss b q wr) (x : Int) : PlaL w R P pv pu v u qs ss b (q.1, x) (wr.setCell ⟨b, 1, none⟩ (.int .i64 x)) :=
  ⟨h.1.far (set1_grown _ _ _ _) h.2.2.1 h.2.2.2.1 h.2.2.2.2, h.2.1.set_ 1 _, h.2.2⟩

theorem PlaL.drew {w wr : World} {R P b : Nat} {pv pu v u : Value} {qs : List Qt} {ss : List Int} {q : Qt} (h : PlaL w R P pv pu v u qs ss b q wr) : PlaL w R P pv pu v u qs ss b q wr.drew := ⟨h.1.drew, h.2.1.below15 (Below.refl _ _).drew, h.2.2⟩

theorem PlaR.loc {w wr : World} {R P : Nat} {pv pu v u : Value} {qs : List Qt} {ss : List Int} (h : PlaR w R P pv pu v u qs ss wr) (q : Qt) : PlaL w R P pv pu v u qs ss wr.heap.size q (wr.alloc (.cells #[.int .i64 q.1, .int .i64 q.2] 64)) := by
  have hsz : (w.heap.size + 1 + 1) < wr.heap.size := by
    obtain ⟨gs, g1, g2⟩ := h.gr
    exact (g2.ge _ rfl).2
  exact ⟨h.alloc _, heap_alloc_new wr _, hsz, fun e => by have := (h.oq.ge _ e).2; omega, fun e => by have := (h.oi.ge _ e).2; omega⟩

def PlDr (R Q : Nat) (w : World) (e : Ending) (w' : World) : Prop := ∃ v u p, e = .returned (.agg #[v, u]) ∧ PlRd (fun g => w.heap.size ≤ g ∧ g < w'.heap.size) w' v u p ∧ (p.1.length ≤ 4 ∧ p.2.length ≤ 4 ∧ ∀ s ∈ p.2, -3 ≤ s ∧ s ≤ 3) ∧ SR w R Q w'

theorem snoc3 {ss : List Int} {x : Int} (h : ∀ s ∈ ss, -3 ≤ s ∧ s ≤ 3) (k : -3 ≤ x ∧ x ≤ 3) : ∀ s ∈ ss ++ [x], -3 ≤ s ∧ s ≤ 3 := fun s hs => by
  rcases List.mem_append.1 hs with h1 | h1
  · exact h s h1
  · obtain rfl := List.mem_singleton.1 h1; exact k

theorem PlaR.fin {w wr : World} {R P Q : Nat} {pv pu : Value} {qs : List Qt} {ss : List Int} (h : PlaR w R P pv pu pv pu qs ss wr) (hPQ : P ≤ Q) (h1 : qs.length ≤ 4) (h2 : ss.length ≤ 4) (h3 : ∀ s ∈ ss, -3 ≤ s ∧ s ≤ 3) (x y : Value) :
    PlDr R Q w (.returned (.agg #[pv, pu])) ((wr.setCell ⟨w.heap.size, 0, none⟩ x).setCell ⟨w.heap.size, 1, none⟩ y) := by
  have gw : wr.grownBy ((wr.setCell ⟨w.heap.size, 0, none⟩ x).setCell ⟨w.heap.size, 1, none⟩ y) (some w.heap.size) := grow3 (set1_grown _ _ _ _) (set1_grown _ _ _ _)
  have zsz := gw.size
  refine ⟨pv, pu, (qs, ss), rfl, ⟨⟨?_, h.oq.sane, fun g hg => ?_⟩, ?_, h.oi.sane, fun g hg => ?_⟩, ⟨h1, h2, h3⟩, (h.sr.mono hPQ).grown gw (fun j hj => by have := Option.some.inj hj; omega)⟩
  · exact (h.oq.off gw (.inr (fun e => by have := (h.oq.ge _ e).1; omega))).rd qC_len
  · have := h.oq.ge g hg; omega
  · exact (iown_g.2 (h.oi.off gw (.inr (fun e => by have := (h.oi.ge _ e).1; omega)))).rd
  · have := h.oi.ge g hg; omega

set_option maxRecDepth 100000 in
set_option maxHeartbeats 16000000 in
theorem l20Place_any (w : World) (R P : Nat) (m : Int) (hP : P ≤ 100000) (hm : m ≤ 1000) (h : Rd w R P) :
    Calls Try.prog 34 #[.pointer (some ⟨R, 0, none⟩), .int .i64 m] w (PlDr R (P + 20) w) := by
  obtain ⟨W, hW⟩ : ∃ W, ((w.alloc (.cells #[.slice none 0 0, .slice none 0 0] 26)).alloc (.cells #[.slice none 0 0, .slice none 0 0] 26)).alloc (.cells #[.int .i64 0, .int .i64 0, .int .i64 0, .int .i64 0] 3) = W := ⟨_, rfl⟩
  have D0 : Hid (PlaR w R P (.slice none 0 0) (.slice none 0 0) (.slice none 0 0) (.slice none 0 0) [] [] W) := Lib.hid (by
    rw [← hW]
    refine ⟨(((SR.start h).alloc _).alloc _).alloc _, Blk.alloc (Blk.alloc (heap_alloc_new w _) _) _, Blk.alloc ?_ _, ⟨[0, 0, 0, 0], rfl, ?_⟩, GOwn.nil _ _ _ _ _, GOwn.nil _ _ _ _ _, fun g hg => by cases hg⟩
    · have := heap_alloc_new (w.alloc (.cells #[.slice none 0 0, .slice none 0 0] 26)) (.cells #[.slice none 0 0, .slice none 0 0] 26)
      rwa [World.size_alloc] at this
    · have := World.ownsRow_lit ((w.alloc (.cells #[.slice none 0 0, .slice none 0 0] 26)).alloc (.cells #[.slice none 0 0, .slice none 0 0] 26)) (base := (w.heap.size + 1 + 1)) #[.int .i64 0, .int .i64 0, .int .i64 0, .int .i64 0] 4 (e := 3) (size := 1) (by rw [World.size_alloc, World.size_alloc]; omega) (by unfold maxLen; omega) rfl
      rw [World.size_alloc, World.size_alloc] at this
      exact this)
  have HW := Lib.hid hW
  clear h hW
  go_enter Try.func34, Try.ntmps34
  go_upto_if 14 with fail
  rw [HW.out]
  go_loopw [7] (fun i wr => ∃ k Q : Nat, i = .int .i64 (k : Int) ∧ k ≤ 6 ∧ Q ≤ P + k ∧ Hid (PlaR w R Q (.slice none 0 0) (.slice none 0 0) (.slice none 0 0) (.slice none 0 0) [] [] wr)) (fun i _ => 6 - (intOf i).toNat)
  case atStart => exact ⟨0, P, rfl, by omega, by omega, D0⟩
  case round =>
    obtain ⟨k, Q, rfl, hk, hQ, HB⟩ := hrel
    clear D0
    by_cases hlt : k < 6
    · have hlt' : (k : Int) < 6 := by omega
      go_wp2_with fail
      refine (pick_any _ R Q _ (by omega) HB.out.sr.1).mono ?_
      rintro e w5 ⟨v3, rfl, ⟨p1, p2, -⟩, k1⟩
      have p2 := p2 (by decide)
      obtain ⟨j, rfl⟩ : ∃ j : Nat, v3 = j := ⟨v3.toNat, by omega⟩
      have HB5 := Lib.hid (HB.out.picked k1)
      clear k1 HB
      obtain ⟨⟨x, hcx⟩, hfx⟩ := HB5.out.grain (k := j) (by omega)
      go_wp2_with fail
      go_roundw
      case rel => exact ⟨k + 1, Q + 1, by go_num, by omega, by omega, Lib.hid (HB5.out.lay j _)⟩
      case measure => simp [intOf]; omega
    · have hlt' : (6 : Int) ≤ (k : Int) := by omega
      have HB0 := Lib.hid (HB.out.mono (Q := P + 6) (by omega))
      clear HB
      go_wp2_with fail
      refine (pick_any _ R (P + 6) _ (by omega) HB0.out.sr.1).mono ?_
      rintro e w6 ⟨v4, rfl, ⟨p3, p4, -⟩, k1⟩
      have p4 := p4 (by decide)
      have HB6 := Lib.hid (HB0.out.picked k1)
      obtain ⟨r, rfl⟩ : ∃ r : Nat, v4 = r := ⟨v4.toNat, by omega⟩
      have hr3 : r ≤ 3 := by omega
      clear k1 HB0 p3 p4
      go_wp2_with fail
      go_loopw [9] (fun i wr => ∃ (k Q : Nat), i = .int .i64 (k : Int) ∧ k ≤ 3 ∧ Q + 2 * k ≤ P + 13 ∧ Hid (∃ (v u : Value) (qs : List Qt) (ss : List Int), (qs.length + k ≤ 3 ∧ ss.length + k ≤ 3) ∧ (∀ s ∈ ss, -3 ≤ s ∧ s ≤ 3) ∧ PlaR w R Q v u v u qs ss wr)) (fun i _ => (intOf i).toNat)
      case atStart => exact ⟨r, P + 7, rfl, by omega, by omega, Lib.hid ⟨_, _, [], [], ⟨by simp; omega, by simp; omega⟩, fun s hs => (by cases hs), HB6.out⟩⟩
      case round =>
        obtain ⟨k, Q, rfl, hk, hQ, HX⟩ := hrel
        obtain ⟨v, u, qs, ss, ⟨hl1, hl2⟩, h3, hb⟩ := HX.out
        obtain ⟨A1, n1, c1, rfl⟩ : ∃ A n c, v = .slice A n c := by obtain ⟨x1, x2, x3, -⟩ := (hb.oq.rd qC_len).form; exact ⟨_, _, _, x3⟩
        obtain ⟨A5, n5, c5, rfl⟩ : ∃ A n c, u = .slice A n c := by obtain ⟨x1, x2, x3, -⟩ := (hb.oi.rd iC_len).form; exact ⟨_, _, _, x3⟩
        have HB := Lib.hid hb
        have H3 := Lib.hid h3
        clear HB6 HX hb h3
        by_cases hlt : 0 < k
        · have hlt' : (0 : Int) < (k : Int) := by omega
          obtain ⟨k, rfl⟩ : ∃ k', k = k' + 1 := ⟨k - 1, by omega⟩
          go_wp2_with fail
          refine (pick_any _ R Q _ (by omega) HB.out.sr.1).mono ?_
          rintro e w7 ⟨e1, rfl, ⟨p1, p2, -⟩, k1⟩
          have p2 := p2 (by decide)
          have HL := Lib.hid ((HB.out.picked k1).loc (e1, 0))
          clear k1 HB
          obtain ⟨w8, hw8⟩ : ∃ w8, w7.alloc (.cells #[.int .i64 e1, .int .i64 0] 64) = w8 := ⟨_, rfl⟩
          have HW8 := Lib.hid hw8
          rw [hw8] at HL
          obtain ⟨b, hb⟩ : ∃ b, w7.heap.size = b := ⟨_, rfl⟩
          have HBB := Lib.hid hb
          rw [hb] at HL
          clear hw8 hb
          go_upto_if 37 with fail
          rw [HW8.out, HBB.out]
          clear HW8 HBB
          go_loopw [11] (fun i wr => ∃ (j : Nat) (pr : Int), i = .int .i64 (j : Int) ∧ j ≤ 4 ∧ Hid (PlaL w R (Q + 1) (.slice A1 n1 c1) (.slice A5 n5 c5) (.slice A1 n1 c1) (.slice A5 n5 c5) qs ss b (e1, pr) wr)) (fun i _ => 4 - (intOf i).toNat)
          case atStart => exact ⟨0, 0, rfl, by omega, HL⟩
          case round =>
            obtain ⟨j, pr, rfl, hj2, HI⟩ := hrel
            clear HL
            by_cases hjn : j < 4
            · have hjn' : (j : Int) < 4 := by omega
              obtain ⟨hc0, hc1, hf0, hf1⟩ := HI.out.cells
              obtain ⟨⟨x, hcx⟩, hfx⟩ := HI.out.1.grain hjn
              obtain rfl | rfl | rfl | rfl : j = 0 ∨ j = 1 ∨ j = 2 ∨ j = 3 := by omega
              all_goals
                go_wp2_with fail
                go_region
                all_goals
                  go_wp2_with fail
                  go_roundw
                  case rel => first | exact ⟨1, _, rfl, by omega, by first | exact Lib.hid (HI.out.drew.price _) | exact Lib.hid (HI.out.price _).drew⟩ | exact ⟨2, _, rfl, by omega, by first | exact Lib.hid (HI.out.drew.price _) | exact Lib.hid (HI.out.price _).drew⟩ | exact ⟨3, _, rfl, by omega, by first | exact Lib.hid (HI.out.drew.price _) | exact Lib.hid (HI.out.price _).drew⟩ | exact ⟨4, _, rfl, by omega, by first | exact Lib.hid (HI.out.drew.price _) | exact Lib.hid (HI.out.price _).drew⟩
                  case measure => simp [intOf]
            · obtain rfl : j = 4 := by omega
              obtain ⟨hc0, hc1, hf0, hf1⟩ := HI.out.cells
              obtain ⟨⟨g0, g1⟩, f0, f1⟩ := HI.out.1.cells
              obtain ⟨A7, n7, c7, w9, rn, HA, -, -⟩ := HI.out.1.addq (e1, pr) (by omega) 23
              have HA := Lib.hid HA
              obtain ⟨⟨m0, m1⟩, n0, n1⟩ := HA.out.cells
              dsimp only at rn
              go_upto_region 17 with (at_builtin; refine wp_app_run rfl _ _ _ rfl (by rfl) (by rfl) rn ?_)
              have HP := Lib.hid (HA.out.put0 (.slice A7 n7 c7))
              clear hc0 hc1 hf0 hf1 g0 g1 f0 f1 m0 m1 n0 n1 rn HA HI
              generalize w9.setCell ⟨w.heap.size + 1, 0, none⟩ (.slice A7 n7 c7) = X0 at *
              have HS0 : Hid (PlaR w R (Q + 1) (.slice A7 n7 c7) (.slice A5 n5 c5) (.slice A7 n7 c7) (.slice A5 n5 c5) (qs ++ [(e1, pr)]) ss X0.drew) := Lib.hid HP.out.drew
              refine late_start (S := fun w' => w'.cell? ⟨w.heap.size + 1, 1, none⟩ = some (.slice A5 n5 c5)) 8 (by kernel_rfl) HS0.out.cells.1.2 (fun hHeld => ?_)
              generalize X0.drew = Y0 at *
              refine late_in (i := 0) (v := ?_) rfl (by kernel_rfl) (fun _ _ _ h => h) rfl ?_ hHeld ?_
              rotate_left
              · intro w' hSw; go_simp; all_goals with_reducible rfl
              try simp only [Act.put, List.setIfInBounds_toArray, List.set_cons_zero, List.set_cons_succ]
              refine late_in (i := 1) (v := ?_) rfl (by kernel_rfl) (fun _ _ _ h => h) rfl ?_ hHeld ?_
              rotate_left
              · intro w' hSw; have q0 : w'.cell? ⟨w.heap.size + 1, 1, none⟩ = some (.slice A5 n5 c5) := hSw; go_simp; all_goals with_reducible rfl
              try simp only [Act.put, List.setIfInBounds_toArray, List.set_cons_zero, List.set_cons_succ]
              refine late_in (i := 2) (v := ?_) rfl (by kernel_rfl) (fun _ _ _ h => h) rfl ?_ hHeld ?_
              rotate_left
              · intro w' hSw; go_simp; all_goals with_reducible rfl
              try simp only [Act.put, List.setIfInBounds_toArray, List.set_cons_zero, List.set_cons_succ]
              refine late_one (i := 3) rfl (by kernel_rfl) (fun K hK => ?_)
              go_simp
              go_at_call 56
              refine (pick_any Y0 R (Q + 1) _ (by omega) HS0.out.sr.1).mono ?_
              rintro e Y1 ⟨x7, rfl, ⟨r1, r2, -⟩, k1⟩
              have r2 := r2 (by decide)
              have HS1 := Lib.hid (HS0.out.picked k1)
              clear k1 HS0 HP
              refine hK.out _ _ HS1.out.cells.1.2 (fun hHeld => ?_)
              clear hK K
              obtain ⟨x8, hx8⟩ : ∃ x, x7 - 3 = x := ⟨_, rfl⟩
              have hw3 : IntKind.i64.wrap (x7 - 3) = x8 := by rw [IntWalk.i64_in _ (by omega)]; exact hx8
              have hx9 : -3 ≤ x8 ∧ x8 ≤ 3 := by omega
              clear hx8
              try simp only [Act.put, List.setIfInBounds_toArray, List.set_cons_zero, List.set_cons_succ]
              refine late_in (i := 4) (v := ?_) rfl (by kernel_rfl) (fun _ _ _ h => h) rfl ?_ hHeld ?_
              rotate_left
              · intro w' hSw; go_simp; all_goals with_reducible rfl
              try simp only [Act.put, List.setIfInBounds_toArray, List.set_cons_zero, List.set_cons_succ]
              obtain ⟨A8, n8, c8, Y2, rn, HA, -, -⟩ := HS1.out.addi x8 (by omega) 24
              have HA := Lib.hid HA
              refine late_one (i := 5) rfl (by kernel_rfl) (fun K hK => ?_)
              go_simp
              refine hK.out _ _ (HS1.out.alloc _).cells.1.2 (fun hHeld => ?_)
              clear hK K
              try simp only [Act.put, List.setIfInBounds_toArray, List.set_cons_zero, List.set_cons_succ]
              refine late_one (i := 6) rfl (by kernel_rfl) (fun K hK => ?_)
              refine step_append (s := .tmp 62) (x := .tmp 66) rfl rfl rn ?_
              refine hK.out _ _ HA.out.cells.1.2 (fun hHeld => ?_)
              clear hK K rn HS1
              try simp only [Act.put, List.setIfInBounds_toArray, List.set_cons_zero, List.set_cons_succ]
              refine late_in (i := 7) (v := ?_) rfl (by kernel_rfl) (fun _ _ _ h => h) rfl ?_ hHeld ?_
              rotate_left
              · intro w' hSw; go_simp; all_goals with_reducible rfl
              try simp only [Act.put, List.setIfInBounds_toArray, List.set_cons_zero, List.set_cons_succ]
              obtain ⟨⟨m0, m1⟩, n0, n1⟩ := HA.out.cells
              refine late_last (i := 8) rfl (by kernel_rfl) rfl (fun K hK => ?_)
              have HE := Lib.hid (HA.out.put1 (.slice A8 n8 c8))
              go_simp
              refine hK.out _ _ ?_
              clear hK K m0 m1 n0 n1 HA
              try simp only [Act.put, List.setIfInBounds_toArray, List.set_cons_zero, List.set_cons_succ]
              generalize Y2.setCell ⟨w.heap.size + 1, 1, none⟩ (.slice A8 n8 c8) = Y3 at *
              refine late_done (by kernel_rfl) ?_ _
              go_wp2_with fail
              go_roundw
              case rel => exact ⟨k, Q + 2, by go_num, by omega, by omega, Lib.hid ⟨_, _, _, _, ⟨by simp; omega, by simp; omega⟩, snoc3 H3.out hx9, HE.out⟩⟩
              case measure => simp [intOf] <;> omega
        · obtain rfl : k = 0 := by omega
          have HB' := Lib.hid (HB.out.mono (Q := P + 13) (by omega))
          have hq3 : qs.length ≤ 3 := by omega
          have hs3 : ss.length ≤ 3 := by omega
          clear HB hl1 hl2
          go_wp2_with fail
          refine (odd_all _ R (P + 13) m (by omega) (by omega) HB'.out.sr.1).mono ?_
          rintro e w9 ⟨bo, rfl, k1⟩
          have HC := Lib.hid (HB'.out.dr k1)
          clear k1 HB'
          cases bo
          · obtain ⟨⟨g0, g1⟩, f0, f1⟩ := HC.out.cells
            have z0 : w9.cell? ⟨w.heap.size, 0, none⟩ = some (.slice none 0 0) := HC.out.res.cell 0
            have z1 : w9.cell? ⟨w.heap.size, 1, none⟩ = some (.slice none 0 0) := HC.out.res.cell 1
            have y0 := HC.out.res.frozen 0
            have y1 := HC.out.res.frozen 1
            have FZ : Blk ((w9.setCell ⟨w.heap.size, 0, none⟩ (.slice A1 n1 c1)).setCell ⟨w.heap.size, 1, none⟩ (.slice A5 n5 c5)) w.heap.size 26 #[(.slice A1 n1 c1), (.slice A5 n5 c5)] := (HC.out.res.set_ 0 _).set_ 1 _
            have FZH := Lib.hid FZ
            have HF := Lib.hid (HC.out.fin (Q := P + 20) (by omega) (by first | omega | (simp; omega)) (by first | omega | (simp; omega)) H3.out (.slice A1 n1 c1) (.slice A5 n5 c5))
            clear FZ
            go_wp2_with fail
            clear g0 g1 f0 f1 z0 z1 y0 y1
            have d0 : ((w9.setCell ⟨w.heap.size, 0, none⟩ (.slice A1 n1 c1)).setCell ⟨w.heap.size, 1, none⟩ (.slice A5 n5 c5)).cell? ⟨w.heap.size, 0, none⟩ = some (.slice A1 n1 c1) := FZH.out.cell 0
            have d1 : ((w9.setCell ⟨w.heap.size, 0, none⟩ (.slice A1 n1 c1)).setCell ⟨w.heap.size, 1, none⟩ (.slice A5 n5 c5)).cell? ⟨w.heap.size, 1, none⟩ = some (.slice A5 n5 c5) := FZH.out.cell 1
            refine bodyPost_ret (v := .agg #[(.slice A1 n1 c1), (.slice A5 n5 c5)]) (by simp [results, Try.results34, go_sem, d0, d1]) rfl ?_
            exact HF.out
          · go_wp2_with fail
            refine (pick_any _ R (P + 13 + 1) _ (by omega) HC.out.sr.1).mono ?_
            rintro e w10 ⟨v7, rfl, ⟨p1, p2, -⟩, k1⟩
            have p2 := p2 (by decide)
            have HD := Lib.hid (HC.out.picked k1)
            clear k1 HC
            obtain rfl | rfl : v7 = 0 ∨ v7 = 1 := by omega
            · obtain ⟨⟨g0, g1⟩, f0, f1⟩ := HD.out.cells
              obtain ⟨A7, n7, c7, w11, rn, HA, -, -⟩ := HD.out.addi 0 (by omega) 24
              have HA := Lib.hid HA
              obtain ⟨⟨m0, m1⟩, n0, n1⟩ := HA.out.cells
              go_upto_region 24 with (at_builtin; refine wp_app_run rfl _ _ _ rfl (by rfl) (by rfl) rn ?_)
              have HE := Lib.hid (HA.out.put1 (.slice A7 n7 c7))
              clear g0 g1 f0 f1 m0 m1 n0 n1 rn HA HD p1 p2
              generalize w11.setCell ⟨w.heap.size + 1, 1, none⟩ (.slice A7 n7 c7) = X0 at *
              obtain ⟨⟨g0, g1⟩, f0, f1⟩ := HE.out.cells
              have z0 : X0.cell? ⟨w.heap.size, 0, none⟩ = some (.slice none 0 0) := HE.out.res.cell 0
              have z1 : X0.cell? ⟨w.heap.size, 1, none⟩ = some (.slice none 0 0) := HE.out.res.cell 1
              have y0 := HE.out.res.frozen 0
              have y1 := HE.out.res.frozen 1
              have FZ : Blk ((X0.setCell ⟨w.heap.size, 0, none⟩ (.slice A1 n1 c1)).setCell ⟨w.heap.size, 1, none⟩ (.slice A7 n7 c7)) w.heap.size 26 #[(.slice A1 n1 c1), (.slice A7 n7 c7)] := (HE.out.res.set_ 0 _).set_ 1 _
              have FZH := Lib.hid FZ
              have HF := Lib.hid (HE.out.fin (Q := P + 20) (by omega) (by first | omega | (simp; omega)) (by first | omega | (simp; omega)) (snoc3 H3.out (by omega)) (.slice A1 n1 c1) (.slice A7 n7 c7))
              clear FZ
              go_wp2_with fail
              clear g0 g1 f0 f1 z0 z1 y0 y1
              have d0 : ((X0.setCell ⟨w.heap.size, 0, none⟩ (.slice A1 n1 c1)).setCell ⟨w.heap.size, 1, none⟩ (.slice A7 n7 c7)).cell? ⟨w.heap.size, 0, none⟩ = some (.slice A1 n1 c1) := FZH.out.cell 0
              have d1 : ((X0.setCell ⟨w.heap.size, 0, none⟩ (.slice A1 n1 c1)).setCell ⟨w.heap.size, 1, none⟩ (.slice A7 n7 c7)).cell? ⟨w.heap.size, 1, none⟩ = some (.slice A7 n7 c7) := FZH.out.cell 1
              refine bodyPost_ret (v := .agg #[(.slice A1 n1 c1), (.slice A7 n7 c7)]) (by simp [results, Try.results34, go_sem, d0, d1]) rfl ?_
              exact HF.out
            · obtain ⟨⟨g0, g1⟩, f0, f1⟩ := HD.out.cells
              obtain ⟨A7, n7, c7, w11, rn, HA, -, -⟩ := HD.out.addq (0, 1) (by omega) 23
              have HA := Lib.hid HA
              obtain ⟨⟨m0, m1⟩, n0, n1⟩ := HA.out.cells
              go_upto_region 21 with (at_builtin; refine wp_app_run rfl _ _ _ rfl (by rfl) (by rfl) rn ?_)
              have HE := Lib.hid (HA.out.put0 (.slice A7 n7 c7))
              clear g0 g1 f0 f1 m0 m1 n0 n1 rn HA HD p1 p2
              generalize w11.setCell ⟨w.heap.size + 1, 0, none⟩ (.slice A7 n7 c7) = X0 at *
              obtain ⟨⟨g0, g1⟩, f0, f1⟩ := HE.out.cells
              obtain ⟨A8, n8, c8, w12, rn, HA, -, -⟩ := HE.out.addi 0 (by omega) 24
              have HA := Lib.hid HA
              obtain ⟨⟨m0, m1⟩, n0, n1⟩ := HA.out.cells
              go_upto_region 24 with (at_builtin; refine wp_app_run rfl _ _ _ rfl (by rfl) (by rfl) rn ?_)
              have HE2 := Lib.hid (HA.out.put1 (.slice A8 n8 c8))
              clear g0 g1 f0 f1 m0 m1 n0 n1 rn HA HE
              generalize w12.setCell ⟨w.heap.size + 1, 1, none⟩ (.slice A8 n8 c8) = X1 at *
              obtain ⟨⟨g0, g1⟩, f0, f1⟩ := HE2.out.cells
              have z0 : X1.cell? ⟨w.heap.size, 0, none⟩ = some (.slice none 0 0) := HE2.out.res.cell 0
              have z1 : X1.cell? ⟨w.heap.size, 1, none⟩ = some (.slice none 0 0) := HE2.out.res.cell 1
              have y0 := HE2.out.res.frozen 0
              have y1 := HE2.out.res.frozen 1
              have FZ : Blk ((X1.setCell ⟨w.heap.size, 0, none⟩ (.slice A7 n7 c7)).setCell ⟨w.heap.size, 1, none⟩ (.slice A8 n8 c8)) w.heap.size 26 #[(.slice A7 n7 c7), (.slice A8 n8 c8)] := (HE2.out.res.set_ 0 _).set_ 1 _
              have FZH := Lib.hid FZ
              have HF := Lib.hid (HE2.out.fin (Q := P + 20) (by omega) (by first | omega | (simp; omega)) (by first | omega | (simp; omega)) (snoc3 H3.out (by omega)) (.slice A7 n7 c7) (.slice A8 n8 c8))
              clear FZ
              go_wp2_with fail
              clear g0 g1 f0 f1 z0 z1 y0 y1
              have d0 : ((X1.setCell ⟨w.heap.size, 0, none⟩ (.slice A7 n7 c7)).setCell ⟨w.heap.size, 1, none⟩ (.slice A8 n8 c8)).cell? ⟨w.heap.size, 0, none⟩ = some (.slice A7 n7 c7) := FZH.out.cell 0
              have d1 : ((X1.setCell ⟨w.heap.size, 0, none⟩ (.slice A7 n7 c7)).setCell ⟨w.heap.size, 1, none⟩ (.slice A8 n8 c8)).cell? ⟨w.heap.size, 1, none⟩ = some (.slice A8 n8 c8) := FZH.out.cell 1
              refine bodyPost_ret (v := .agg #[(.slice A7 n7 c7), (.slice A8 n8 c8)]) (by simp [results, Try.results34, go_sem, d0, d1]) rfl ?_
              exact HF.out

end Go.Proofs.Ytebebcomhdjihaa

namespace Go.Proofs.Ytebebcomhdjihaa
open Go.RowKit
set_option linter.unusedVariables false

def PlDrawn (w : World) (e : Ending) (w' : World) : Prop := ∃ v u p, e = .returned (.agg #[v, u]) ∧ PlRd (fun g => w.heap.size ≤ g ∧ g < w'.heap.size) w' v u p ∧ (p.1.length ≤ 4 ∧ p.2.length ≤ 4 ∧ ∀ s ∈ p.2, -3 ≤ s ∧ s ≤ 3) ∧ Below w.heap.size w w'

set_option maxHeartbeats 4000000 in
theorem drawPlaceOk_any (w : World) (a : Option Addr) (len cap : Nat) (zs : List Int) (h : IsRowC .u8 w a len cap zs) :
    Calls Try.prog 20 #[.slice a len cap] w (PlDrawn w) := by
  have B0 := Lib.hid (blk_alloc w #[.slice none 0 0, .slice none 0 0] 26)
  go_enter Try.func20, Try.ntmps20
  go_wp2_with fail
  refine (open_at _ (w.heap.size + 1) a len cap zs (by simp) (h.alloc _)).mono ?_
  rintro e w1 ⟨rfl, d1, b1, s1⟩
  have B1 := Lib.hid (B0.out.more (b1.block w.heap.size (by simp)))
  have HB1 : Hid (Below w.heap.size w w1) := Lib.hid (below_step ((Below.refl _ _).alloc (Nat.le_refl _) _) b1 (by simp))
  have D1 := Lib.hid d1
  have HS1 := Lib.hid s1
  clear b1 d1 h B0 s1
  go_wp2_with fail
  refine (l20Place_any _ (w.heap.size + 1) 0 _ (by decide) (by decide) D1.out.1).mono ?_
  rintro e Y ⟨v, u, p, rfl, hp, hs, sr⟩
  obtain ⟨Av, cv, rfl, -, -⟩ := hp.1.1.form
  obtain ⟨Au, cu, rfl, -, -, -⟩ := id hp.2.1
  have FR := B1.out.off sr.2.1 (fun e => by have := Option.some.inj e; omega)
  have HBY : Hid (Below w.heap.size w Y) := Lib.hid (HB1.out.grown sr.2.1 HB1.out.size (fun g hg => by have e := Option.some.inj hg; omega))
  have zY := sr.2.1.size
  have HP := Lib.hid hp
  have HSM := Lib.hid hs
  clear hp hs sr B1 HB1 D1
  have z0 : Y.cell? ⟨w.heap.size, 0, none⟩ = some (.slice none 0 0) := FR.cell 0
  have z1 : Y.cell? ⟨w.heap.size, 1, none⟩ = some (.slice none 0 0) := FR.cell 1
  have y0 := FR.frozen 0
  have y1 := FR.frozen 1
  have gw : Y.grownBy ((Y.setCell ⟨w.heap.size, 0, none⟩ (.slice Av p.1.length cv)).setCell ⟨w.heap.size, 1, none⟩ (.slice Au p.2.length cu)) (some (w.heap.size)) := grow3 (set1_grown _ _ _ _) (set1_grown _ _ _ _)
  have zsz : Y.heap.size ≤ ((Y.setCell ⟨w.heap.size, 0, none⟩ (.slice Av p.1.length cv)).setCell ⟨w.heap.size, 1, none⟩ (.slice Au p.2.length cu)).heap.size := gw.size
  have FZ : Blk ((Y.setCell ⟨w.heap.size, 0, none⟩ (.slice Av p.1.length cv)).setCell ⟨w.heap.size, 1, none⟩ (.slice Au p.2.length cu)) (w.heap.size) 26 #[(.slice Av p.1.length cv), (.slice Au p.2.length cu)] := ((FR.set_ 0 _).set_ 1 _)
  have HPZ : Hid (PlRd (fun g => w.heap.size ≤ g ∧ g < (((Y.setCell ⟨w.heap.size, 0, none⟩ (.slice Av p.1.length cv)).setCell ⟨w.heap.size, 1, none⟩ (.slice Au p.2.length cu))).heap.size) (((Y.setCell ⟨w.heap.size, 0, none⟩ (.slice Av p.1.length cv)).setCell ⟨w.heap.size, 1, none⟩ (.slice Au p.2.length cu))) (.slice Av p.1.length cv) (.slice Au p.2.length cu) p) := Lib.hid ((HP.out.off gw (fun hh => by have := HS1.out; omega)).mono (fun g hg => ⟨by have := HS1.out; omega, by omega⟩))
  have HBZ : Hid (Below w.heap.size w (((Y.setCell ⟨w.heap.size, 0, none⟩ (.slice Av p.1.length cv)).setCell ⟨w.heap.size, 1, none⟩ (.slice Au p.2.length cu)))) := Lib.hid (HBY.out.grown gw HBY.out.size (fun g hg => by have e := Option.some.inj hg; omega))
  clear gw
  go_wp2_with fail
  clear z0 y0 z1 y1
  generalize ((Y.setCell ⟨w.heap.size, 0, none⟩ (.slice Av p.1.length cv)).setCell ⟨w.heap.size, 1, none⟩ (.slice Au p.2.length cu)) = Z at *
  have d0 : Z.cell? ⟨w.heap.size, 0, none⟩ = some (.slice Av p.1.length cv) := FZ.cell 0
  have d1 : Z.cell? ⟨w.heap.size, 1, none⟩ = some (.slice Au p.2.length cu) := FZ.cell 1
  refine bodyPost_ret (v := .agg #[.slice Av p.1.length cv, .slice Au p.2.length cu]) (by simp [results, Try.results20, go_sem, d0, d1]) rfl ?_
  exact ⟨_, _, p, rfl, HPZ.out, HSM.out, HBZ.out⟩

set_option maxHeartbeats 4000000 in
theorem drawDeskNew_any (w : World) (a : Option Addr) (len cap : Nat) (zs : List Int) (h : IsRowC .u8 w a len cap zs) :
    Calls Try.prog 13 #[.slice a len cap] w (PlDrawn w) := by
  have B0 := Lib.hid (blk_alloc w #[.slice none 0 0, .slice none 0 0] 26)
  go_enter Try.func13, Try.ntmps13
  go_wp2_with fail
  refine (open_at _ (w.heap.size + 1) a len cap zs (by simp) (h.alloc _)).mono ?_
  rintro e w1 ⟨rfl, d1, b1, s1⟩
  have B1 := Lib.hid (B0.out.more (b1.block w.heap.size (by simp)))
  have HB1 : Hid (Below w.heap.size w w1) := Lib.hid (below_step ((Below.refl _ _).alloc (Nat.le_refl _) _) b1 (by simp))
  have D1 := Lib.hid d1
  have HS1 := Lib.hid s1
  clear b1 d1 h B0 s1
  go_wp2_with fail
  refine (l20Place_any _ (w.heap.size + 1) 0 _ (by decide) (by decide) D1.out.1).mono ?_
  rintro e Y ⟨v, u, p, rfl, hp, hs, sr⟩
  obtain ⟨Av, cv, rfl, -, -⟩ := hp.1.1.form
  obtain ⟨Au, cu, rfl, -, -, -⟩ := id hp.2.1
  have FR := B1.out.off sr.2.1 (fun e => by have := Option.some.inj e; omega)
  have HBY : Hid (Below w.heap.size w Y) := Lib.hid (HB1.out.grown sr.2.1 HB1.out.size (fun g hg => by have e := Option.some.inj hg; omega))
  have zY := sr.2.1.size
  have HP := Lib.hid hp
  have HSM := Lib.hid hs
  clear hp hs sr B1 HB1 D1
  have z0 : Y.cell? ⟨w.heap.size, 0, none⟩ = some (.slice none 0 0) := FR.cell 0
  have z1 : Y.cell? ⟨w.heap.size, 1, none⟩ = some (.slice none 0 0) := FR.cell 1
  have y0 := FR.frozen 0
  have y1 := FR.frozen 1
  have gw : Y.grownBy ((Y.setCell ⟨w.heap.size, 0, none⟩ (.slice Av p.1.length cv)).setCell ⟨w.heap.size, 1, none⟩ (.slice Au p.2.length cu)) (some (w.heap.size)) := grow3 (set1_grown _ _ _ _) (set1_grown _ _ _ _)
  have zsz : Y.heap.size ≤ ((Y.setCell ⟨w.heap.size, 0, none⟩ (.slice Av p.1.length cv)).setCell ⟨w.heap.size, 1, none⟩ (.slice Au p.2.length cu)).heap.size := gw.size
  have FZ : Blk ((Y.setCell ⟨w.heap.size, 0, none⟩ (.slice Av p.1.length cv)).setCell ⟨w.heap.size, 1, none⟩ (.slice Au p.2.length cu)) (w.heap.size) 26 #[(.slice Av p.1.length cv), (.slice Au p.2.length cu)] := ((FR.set_ 0 _).set_ 1 _)
  have HPZ : Hid (PlRd (fun g => w.heap.size ≤ g ∧ g < (((Y.setCell ⟨w.heap.size, 0, none⟩ (.slice Av p.1.length cv)).setCell ⟨w.heap.size, 1, none⟩ (.slice Au p.2.length cu))).heap.size) (((Y.setCell ⟨w.heap.size, 0, none⟩ (.slice Av p.1.length cv)).setCell ⟨w.heap.size, 1, none⟩ (.slice Au p.2.length cu))) (.slice Av p.1.length cv) (.slice Au p.2.length cu) p) := Lib.hid ((HP.out.off gw (fun hh => by have := HS1.out; omega)).mono (fun g hg => ⟨by have := HS1.out; omega, by omega⟩))
  have HBZ : Hid (Below w.heap.size w (((Y.setCell ⟨w.heap.size, 0, none⟩ (.slice Av p.1.length cv)).setCell ⟨w.heap.size, 1, none⟩ (.slice Au p.2.length cu)))) := Lib.hid (HBY.out.grown gw HBY.out.size (fun g hg => by have e := Option.some.inj hg; omega))
  clear gw
  go_wp2_with fail
  clear z0 y0 z1 y1
  generalize ((Y.setCell ⟨w.heap.size, 0, none⟩ (.slice Av p.1.length cv)).setCell ⟨w.heap.size, 1, none⟩ (.slice Au p.2.length cu)) = Z at *
  have d0 : Z.cell? ⟨w.heap.size, 0, none⟩ = some (.slice Av p.1.length cv) := FZ.cell 0
  have d1 : Z.cell? ⟨w.heap.size, 1, none⟩ = some (.slice Au p.2.length cu) := FZ.cell 1
  refine bodyPost_ret (v := .agg #[.slice Av p.1.length cv, .slice Au p.2.length cu]) (by simp [results, Try.results13, go_sem, d0, d1]) rfl ?_
  exact ⟨_, _, p, rfl, HPZ.out, HSM.out, HBZ.out⟩

end Go.Proofs.Ytebebcomhdjihaa

namespace Go.Proofs.Ytebebcomhdjihaa
open Go.RowKit
set_option linter.unusedVariables false

def CutAt (c : UInt8) (l A B : List UInt8) (ok : Bool) : Prop := (ok = true ∧ c ∉ A ∧ l = A ++ c :: B) ∨ (ok = false ∧ c ∉ l ∧ A = l ∧ B = [])

theorem CutAt.no {c : UInt8} {l A B : List UInt8} (h : CutAt c l A B false) : cutF c l = [l] ∧ A = l ∧ B = [] := by
  rcases h with ⟨h, -⟩ | ⟨-, h1, h2⟩
  · cases h
  · exact ⟨cut_one h1, h2⟩

end Go.Proofs.Ytebebcomhdjihaa
