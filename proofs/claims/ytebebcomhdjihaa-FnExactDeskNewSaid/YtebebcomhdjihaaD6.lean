/- Contracts, facts and walks that the laws of this seat lean on, laid together by a program of ours (mkmerge.py) out of: Ai. Conditions: stated at each. -/
import Derived.Test.YtebebcomhdjihaaD5
namespace Go.Proofs.Ytebebcomhdjihaa
open Go.RowKit
set_option linter.unusedVariables false

theorem PlRd.touch {bl S : Nat → Prop} {w w' : World} {v u : Value} {p : Pl} (h : PlRd S w v u p) (hg : GrB bl w w') (hs : ∀ g, S g → ¬ bl g) : PlRd S w' v u p :=
  h.keep (hg.same (fun g e => hs g (h.1.2.2 g e))) (hg.same (fun g e => hs g (h.2.2.2 g e)))

theorem PsRd.touch {bl S : Nat → Prop} {w w' : World} {v : Value} {ps : List Pl} (h : PsRd S w v ps) (hg : GrB bl w w') (hs : ∀ g, S g → ¬ bl g) : PsRd S w' v ps := by
  obtain ⟨us, h1, h2, h3⟩ := h
  exact ⟨us, h1, ⟨h2.1.keep (hg.same (fun g e => hs g (h2.2 g e))), h2.2⟩, fun k x p k1 k2 => (h3 k x p k1 k2).touch hg hs⟩

theorem DkRd.touch {bl S : Nat → Prop} {w w' : World} {v u r : Value} {d : Dk} (h : DkRd S w v u r d) (hg : GrB bl w w') (hs : ∀ g, S g → ¬ bl g) : DkRd S w' v u r d := ⟨h.1.touch hg hs, h.2.touch hg hs⟩

def DkG (w : World) (base : Nat) (v u r : Value) (us : List (Value × Value)) (d : Dk) : Prop := PlN w base v u d.1 ∧ PsN w base r us d.2

theorem DkG.below {w w' : World} {base : Nat} {v u r : Value} {us : List (Value × Value)} {d : Dk} (h : DkG w base v u r us d) (hb : Below w.heap.size w w') : DkG w' base v u r us d := ⟨h.1.below hb, h.2.below hb⟩

theorem DkG.touch {bl : Nat → Prop} {w w' : World} {base : Nat} {v u r : Value} {us : List (Value × Value)} {d : Dk} (h : DkG w base v u r us d) (hg : GrB bl w w') (hb : ∀ g, bl g → g < base) : DkG w' base v u r us d :=
  ⟨h.1.touch hg (fun g e hh => by have := hb g hh; have := (h.1.ge.1 g e).1; omega) (fun g e hh => by have := hb g hh; have := (h.1.ge.2 g e).1; omega), h.2.touch hg (fun g e hh => by have := hb g hh; have := (h.2.2.1.ge g e).1; omega) (fun x hx g e hh => by have := hb g hh; have := (h.2.blocks x hx g e).1; omega)⟩

theorem DkG.rd {w : World} {base : Nat} {v u r : Value} {us : List (Value × Value)} {d : Dk} (h : DkG w base v u r us d) : DkRd (fun _ => True) w v u r d := ⟨h.1.rd (fun _ _ _ => trivial), h.2.rd (fun _ _ _ => trivial)⟩

theorem DkG.blocks {w : World} {base : Nat} {v u r : Value} {us : List (Value × Value)} {d : Dk} (h : DkG w base v u r us d) : ∀ g, InV (v :: u :: us.flatMap pC) g → base ≤ g ∧ g < w.heap.size := by
  rintro g ⟨y, hy, e⟩
  rcases List.mem_cons.1 hy with rfl | hy
  · exact h.1.ge.1 g e
  rcases List.mem_cons.1 hy with rfl | hy
  · exact h.1.ge.2 g e
  · exact h.2.blocks y hy g e

theorem PlN.blocks {w : World} {base : Nat} {v u : Value} {p : Pl} (h : PlN w base v u p) : ∀ g, InV [v, u] g → base ≤ g ∧ g < w.heap.size := by
  rintro g ⟨y, hy, e⟩
  simp only [List.mem_cons, List.not_mem_nil, or_false] at hy
  rcases hy with rfl | rfl
  · exact h.ge.1 g e
  · exact h.ge.2 g e

set_option maxRecDepth 100000 in
set_option maxHeartbeats 16000000 in
theorem FnExactDeskNew_walk (v u : Value) (p : Pl) (w : World) (h : PlRd (fun _ => True) w v u p) :
    Calls Try.prog 8 #[.agg #[v, u]] w fun e w' => e = .returned (.bool true) ∧ Below w.heap.size w w' := by
  obtain ⟨W, eW⟩ : ∃ X, w.alloc (.cells #[v, u] 42) = X := ⟨_, rfl⟩
  have f1 : Blk W (w.heap.size) 42 #[v, u] := by
    rw [← eW]
    have h0 := heap_alloc_new w (.cells #[v, u] 42)
    exact h0
  have bW : Below w.heap.size w W := by rw [← eW]; exact (Below.refl _ _).alloc (by skip; omega) _
  have nW : W.heap.size = w.heap.size + 1 := by rw [← eW]; simp
  have HB := Lib.hid bW
  have HEW := Lib.hid eW
  have HA : Hid (∀ X, Below w.heap.size w X → PlRd (fun _ => True) X v u p) := Lib.hid (fun X hb => h.below hb)
  have FA := Lib.hid (f1)
  obtain ⟨D, hD⟩ : ∃ D, (if plB p = true then (p, []) else noDk) = D := ⟨_, rfl⟩
  obtain ⟨b, hb⟩ : ∃ b, plB p = b := ⟨_, rfl⟩
  have HD := Lib.hid hD
  have HBB := Lib.hid hb
  have HSD : Hid (SmPl p → SmDk D) := Lib.hid (fun hs => by
    rw [← hD]
    unfold SmPl at hs
    split
    · unfold SmDk totS; simpa using hs
    · unfold SmDk tP totS noDk; simp)
  clear h f1 bW eW hD hb
  go_enter Try.func8, Try.ntmps8
  go_upto_region 2 with fail
  rw [HEW.out]
  have qFA0 := FA.out.cell 0
  have qFA1 := FA.out.cell 1
  go_wp2_with fail
  refine (szPlace_any W v u p 1048576 (by decide) (by decide) (HA.out W HB.out)).mono ?_
  rintro e w1 ⟨r, rfl, bw1, hr⟩
  clear qFA0 qFA1
  have zw1 := bw1.size
  replace FA := Lib.hid (FA.out.below15 bw1)
  replace HB := Lib.hid (below_step HB.out bw1 HB.out.size)
  clear bw1
  rcases hr with hr | ⟨hr0, hq⟩
  · go_wp2_with fail
    go_ret
    exact ⟨rfl, HB.out⟩
  · have HS : Hid (SmPl p) := Lib.hid (by unfold SmPl; omega)
    clear hq
    have hnr : ¬ (r < 0) := by omega
    have qFA0 := FA.out.cell 0
    have qFA1 := FA.out.cell 1
    go_wp2_with fail
    refine (toPlace_any w1 v u p (HA.out _ HB.out) HS.out).mono ?_
    rintro e w2 ⟨v2, u2, rfl, oq, oi, nd, bw2⟩
    have pl2 := pl_new (S := fun _ => True) oq oi (fun _ _ _ => trivial)
    clear qFA0 qFA1
    have zw2 := bw2.size
    replace FA := Lib.hid (FA.out.below15 bw2)
    replace HB := Lib.hid (below_step HB.out bw2 HB.out.size)
    clear bw2
    have HT := Lib.hid pl2
    clear pl2 oq oi nd
    go_wp2_with fail
    refine (specDeskNew_any w2 v2 u2 p HT.out D HD.out).mono ?_
    rintro e w3 ⟨va, ua, ra, rfl, dr, -, bw3⟩
    rw [HBB.out]
    obtain ⟨⟨Awa, nwa, cwa, rfl⟩, ⟨Awb, nwb, cwb, rfl⟩, Awc, nwc, cwc, rfl⟩ := dkForm dr
    have zw3 := bw3.size
    replace FA := Lib.hid (FA.out.below15 bw3)
    replace HB := Lib.hid (below_step HB.out bw3 HB.out.size)
    clear bw3
    have HW0 := Lib.hid (dr)
    clear dr HT
    obtain ⟨w4, hw4⟩ : ∃ X, w3.alloc (.cells #[(.slice Awa nwa cwa), (.slice Awb nwb cwb), (.slice Awc nwc cwc)] 29) = X := ⟨_, rfl⟩
    have bw4 : Below w3.heap.size w3 w4 := by rw [← hw4]; exact (Below.refl _ _).alloc (Nat.le_refl _) _
    have FW := Lib.hid (show Blk w4 w3.heap.size 29 #[(.slice Awa nwa cwa), (.slice Awb nwb cwb), (.slice Awc nwc cwc)] by rw [← hw4]; exact heap_alloc_new _ _)
    have sw4 : w3.heap.size < w4.heap.size := by rw [← hw4]; simp
    have Ew4 := Lib.hid hw4
    clear hw4
    have zw4 := bw4.size
    replace FA := Lib.hid (FA.out.below15 bw4)
    replace HW0 := Lib.hid (HW0.out.below bw4)
    replace HB := Lib.hid (below_step HB.out bw4 HB.out.size)
    clear bw4
    go_upto_region 6 with fail
    rw [Ew4.out]
    clear Ew4
    have qFA0 := FA.out.cell 0
    have qFA1 := FA.out.cell 1
    go_wp2_with fail
    refine (toPlace_any w4 v u p (HA.out _ HB.out) HS.out).mono ?_
    rintro e w5 ⟨vx, ux, rfl, oq, oi, nd, bw5⟩
    obtain ⟨Ax, cx, rfl, -, -⟩ := (oq.rd qC_len).form
    obtain ⟨Ay, cy, rfl, -, -, -⟩ := id oi.rd
    clear qFA0 qFA1
    have zw5 := bw5.size
    replace FA := Lib.hid (FA.out.below15 bw5)
    replace HW0 := Lib.hid (HW0.out.below bw5)
    replace FW := Lib.hid (FW.out.below15 bw5)
    replace HB := Lib.hid (below_step HB.out bw5 HB.out.size)
    clear bw5
    have HX0 := Lib.hid (show PlN w5 _ (.slice Ax p.1.length cx) (.slice Ay p.2.length cy) p from ⟨oq, oi⟩)
    have LX := HX0.out.blocks
    have NDX := Lib.hid nd
    clear oq oi nd
    have LX := Lib.hid LX
    obtain ⟨w6, hw6⟩ : ∃ X, w5.alloc (.cells #[(.slice Ax p.1.length cx), (.slice Ay p.2.length cy)] 26) = X := ⟨_, rfl⟩
    have bw6 : Below w5.heap.size w5 w6 := by rw [← hw6]; exact (Below.refl _ _).alloc (Nat.le_refl _) _
    have FX := Lib.hid (show Blk w6 w5.heap.size 26 #[(.slice Ax p.1.length cx), (.slice Ay p.2.length cy)] by rw [← hw6]; exact heap_alloc_new _ _)
    have sw6 : w5.heap.size < w6.heap.size := by rw [← hw6]; simp
    have Ew6 := Lib.hid hw6
    clear hw6
    have zw6 := bw6.size
    replace FA := Lib.hid (FA.out.below15 bw6)
    replace HW0 := Lib.hid (HW0.out.below bw6)
    replace FW := Lib.hid (FW.out.below15 bw6)
    replace HX0 := Lib.hid (HX0.out.below bw6)
    replace HB := Lib.hid (below_step HB.out bw6 HB.out.size)
    clear bw6
    go_upto_region 7 with fail
    rw [Ew6.out]
    clear Ew6
    have qFX0 := FX.out.cell 0
    have qFX1 := FX.out.cell 1
    go_wp2_with fail
    refine (implDeskNew_any w6 _ _ p (HX0.out.rd (S := fun _ => True) (fun _ _ _ => trivial)) D HD.out).mono ?_
    rintro e w7 ⟨vg, ug, rg, rfl, dn, bw7⟩
    rw [HBB.out]
    obtain ⟨⟨Aga, nga, cga, rfl⟩, ⟨Agb, ngb, cgb, rfl⟩, Agc, ngc, cgc, rfl⟩ := dkForm dn.rd
    obtain ⟨hp1, us, hp2, hap⟩ := dn
    clear qFX0 qFX1
    have zw7 := bw7.size
    replace FA := Lib.hid (FA.out.below15 bw7)
    replace HW0 := Lib.hid (HW0.out.below bw7)
    replace FW := Lib.hid (FW.out.below15 bw7)
    replace HX0 := Lib.hid (HX0.out.below bw7)
    replace FX := Lib.hid (FX.out.below15 bw7)
    replace HB := Lib.hid (below_step HB.out bw7 HB.out.size)
    clear bw7
    have HG := Lib.hid (show DkG w7 _ (.slice Aga nga cga) (.slice Agb ngb cgb) (.slice Agc ngc cgc) us D from ⟨hp1, hp2⟩)
    have LG := Lib.hid HG.out.blocks
    have HAP := Lib.hid hap
    clear hp1 hp2 hap
    obtain ⟨w8, hw8⟩ : ∃ X, w7.alloc (.cells #[(.slice Aga nga cga), (.slice Agb ngb cgb), (.slice Agc ngc cgc)] 29) = X := ⟨_, rfl⟩
    have bw8 : Below w7.heap.size w7 w8 := by rw [← hw8]; exact (Below.refl _ _).alloc (Nat.le_refl _) _
    have FG := Lib.hid (show Blk w8 w7.heap.size 29 #[(.slice Aga nga cga), (.slice Agb ngb cgb), (.slice Agc ngc cgc)] by rw [← hw8]; exact heap_alloc_new _ _)
    have sw8 : w7.heap.size < w8.heap.size := by rw [← hw8]; simp
    have Ew8 := Lib.hid hw8
    clear hw8
    have zw8 := bw8.size
    replace FA := Lib.hid (FA.out.below15 bw8)
    replace HW0 := Lib.hid (HW0.out.below bw8)
    replace FW := Lib.hid (FW.out.below15 bw8)
    replace HX0 := Lib.hid (HX0.out.below bw8)
    replace FX := Lib.hid (FX.out.below15 bw8)
    replace HG := Lib.hid (HG.out.below bw8)
    replace HB := Lib.hid (below_step HB.out bw8 HB.out.size)
    clear bw8
    go_upto_region 8 with fail
    rw [Ew8.out]
    clear Ew8
    have qFG0 := FG.out.cell 0
    have qFG1 := FG.out.cell 1
    have qFG2 := FG.out.cell 2
    have qFW0 := FW.out.cell 0
    have qFW1 := FW.out.cell 1
    have qFW2 := FW.out.cell 2
    cases b
    all_goals
      go_wp2_with fail
      refine (eqDesk_any w8 _ _ _ _ _ _ D D HG.out.rd HW0.out).mono ?_
      rintro e w9 ⟨rfl, bw9⟩
      rw [show decide (D = D) = true from by simp]
      clear qFG0 qFG1 qFG2 qFW0 qFW1 qFW2
      have zw9 := bw9.size
      replace FA := Lib.hid (FA.out.below15 bw9)
      replace HW0 := Lib.hid (HW0.out.below bw9)
      replace FW := Lib.hid (FW.out.below15 bw9)
      replace HX0 := Lib.hid (HX0.out.below bw9)
      replace FX := Lib.hid (FX.out.below15 bw9)
      replace HG := Lib.hid (HG.out.below bw9)
      replace FG := Lib.hid (FG.out.below15 bw9)
      replace HB := Lib.hid (below_step HB.out bw9 HB.out.size)
      clear bw9
      go_upto_region 10 with fail
      have HCX : Hid (∀ w', Below w9.heap.size w9 w' → (w'.cell? ⟨w5.heap.size, 0, none⟩ = some (.slice Ax p.1.length cx) ∧ w'.cell? ⟨w5.heap.size, 1, none⟩ = some (.slice Ay p.2.length cy)) ∧ w'.cell? ⟨w.heap.size, 0, none⟩ = some v ∧ w'.cell? ⟨w.heap.size, 1, none⟩ = some u) := Lib.hid (fun w' hb => ⟨⟨(FX.out.below15 hb).cell 0, (FX.out.below15 hb).cell 1⟩, (FA.out.below15 hb).cell 0, (FA.out.below15 hb).cell 1⟩)
      have s0 : Below w9.heap.size w9 w9.drew := (Below.refl _ _).drew
      refine wp_region_held_drew (S := fun w' => Below w9.heap.size w9 w') (by kernel_rfl) s0 (fun hHeld => ?_)
      generalize w9.drew = w10 at *
      refine take_in (i := 0) (v := ?_) rfl (by kernel_rfl) (fun _ _ _ h => h) rfl ?_ hHeld ?_
      rotate_left
      · intro w' hSw; obtain ⟨⟨q0, q1⟩, q2, q3⟩ := HCX.out w' hSw; go_simp; all_goals with_reducible rfl
      try simp only [Act.put, List.setIfInBounds_toArray, List.set_cons_zero, List.set_cons_succ]
      refine take_in (i := 1) (v := ?_) rfl (by kernel_rfl) (fun _ _ _ h => h) rfl ?_ hHeld ?_
      rotate_left
      · intro w' hSw; obtain ⟨⟨q0, q1⟩, q2, q3⟩ := HCX.out w' hSw; go_simp; all_goals with_reducible rfl
      try simp only [Act.put, List.setIfInBounds_toArray, List.set_cons_zero, List.set_cons_succ]
      refine ready_one (i := 2) rfl (by kernel_rfl) (fun K hK => ?_)
      go_simp
      go_at_call 23
      refine (toPlace_any w10 v u p (HA.out w10 (below_step HB.out s0 HB.out.size)) HS.out).mono ?_
      rintro e w11 ⟨va, ua, rfl, oq, oi, nd, bw11⟩
      obtain ⟨Aa, ca, rfl, -, -⟩ := (oq.rd qC_len).form
      obtain ⟨Ab, cb, rfl, -, -, -⟩ := id oi.rd
      have pz := Lib.hid (pl_new (S := fun _ => True) oq oi (fun _ _ _ => trivial))
      clear oq oi nd
      have sw11 := below_step s0 bw11 s0.size
      replace s0 := sw11
      refine hK.out _ _ s0 (fun hHeld => ?_)
      clear hK K sw11
      try simp only [Act.put, List.setIfInBounds_toArray, List.set_cons_zero, List.set_cons_succ]
      refine ready_one (i := 3) rfl (by kernel_rfl) (fun K hK => ?_)
      go_simp
      go_at_call 24
      refine (eqPlace_any w11 _ _ _ _ p p ((HX0.out.below s0).rd (S := fun _ => True) (fun _ _ _ => trivial)) pz.out).mono ?_
      rintro e w12 ⟨rfl, bw12⟩
      rw [show decide (p = p) = true from by simp]
      have sw12 := below_step s0 bw12 s0.size
      replace s0 := sw12
      refine hK.out _ _ s0 (fun hHeld => ?_)
      clear hK K sw12
      try simp only [Act.put, List.setIfInBounds_toArray, List.set_cons_zero, List.set_cons_succ]
      refine take_in (i := 4) (v := ?_) rfl (by kernel_rfl) (fun _ _ _ h => h) rfl ?_ hHeld ?_
      rotate_left
      · intro w' hSw; go_simp; all_goals with_reducible rfl
      try simp only [Act.put, List.setIfInBounds_toArray, List.set_cons_zero, List.set_cons_succ]
      clear HCX
      have bz := s0
      have zw12 := bz.size
      replace FA := Lib.hid (FA.out.below15 bz)
      replace HW0 := Lib.hid (HW0.out.below bz)
      replace FW := Lib.hid (FW.out.below15 bz)
      replace HX0 := Lib.hid (HX0.out.below bz)
      replace FX := Lib.hid (FX.out.below15 bz)
      replace HG := Lib.hid (HG.out.below bz)
      replace FG := Lib.hid (FG.out.below15 bz)
      replace HB := Lib.hid (below_step HB.out bz HB.out.size)
      clear s0 bz
      refine wpAnyH_done (by kernel_rfl) ?_ _
      have LXX : ∀ g, InV [(.slice Ax p.1.length cx), (.slice Ay p.2.length cy)] g → w4.heap.size ≤ g ∧ g < w5.heap.size := LX.out
      have qFX0 := FX.out.cell 0
      have qFX1 := FX.out.cell 1
      go_wp2_with fail
      refine (markPlace_any w12 _ 1 _ _ p HX0.out NDX.out HS.out (by decide) (by decide)).mono ?_
      rintro e w13 ⟨rfl, hx0, g⟩
      clear qFX0 qFX1
      replace FA := Lib.hid (FA.out.more (g.block _ FA.out.lt (fun hh => by have := LXX _ hh; omega)))
      replace HW0 := Lib.hid (HW0.out.touch g (fun k hk hh => by have := LXX k hh; omega))
      replace FW := Lib.hid (FW.out.more (g.block _ FW.out.lt (fun hh => by have := LXX _ hh; omega)))
      replace FX := Lib.hid (FX.out.more (g.block _ FX.out.lt (fun hh => by have := LXX _ hh; omega)))
      replace HG := Lib.hid (HG.out.touch g (fun k hh => by have := LXX k hh; omega))
      replace FG := Lib.hid (FG.out.more (g.block _ FG.out.lt (fun hh => by have := LXX _ hh; omega)))
      replace HX0 := Lib.hid (hx0)
      replace HB := Lib.hid (HB.out.trans (g.below (B := w.heap.size) (fun k hh => by have := LXX k hh; omega) HB.out.size))
      have zw13 := g.size
      clear g
      clear hx0
      obtain ⟨k1, hk1⟩ : ∃ k1 : Int, 1 + ((cP p : Nat) : Int) = k1 := ⟨_, rfl⟩
      rw [hk1]
      have hk1n : ¬ (k1 < 0) := by omega
      have hk1d : decide (k1 < 0) = false := decide_eq_false hk1n
      clear hk1
      have qFG0 := FG.out.cell 0
      have qFG1 := FG.out.cell 1
      have qFG2 := FG.out.cell 2
      have qFW0 := FW.out.cell 0
      have qFW1 := FW.out.cell 1
      have qFW2 := FW.out.cell 2
      go_wp2_with fail
      refine (eqDesk_any w13 _ _ _ _ _ _ D D HG.out.rd HW0.out).mono ?_
      rintro e w14 ⟨rfl, bw14⟩
      rw [show decide (D = D) = true from by simp]
      clear qFG0 qFG1 qFG2 qFW0 qFW1 qFW2
      have zw14 := bw14.size
      replace FA := Lib.hid (FA.out.below15 bw14)
      replace HW0 := Lib.hid (HW0.out.below bw14)
      replace FW := Lib.hid (FW.out.below15 bw14)
      replace HX0 := Lib.hid (HX0.out.below bw14)
      replace FX := Lib.hid (FX.out.below15 bw14)
      replace HG := Lib.hid (HG.out.below bw14)
      replace FG := Lib.hid (FG.out.below15 bw14)
      replace HB := Lib.hid (below_step HB.out bw14 HB.out.size)
      clear bw14
      have LGG : ∀ g, InV ((.slice Aga nga cga) :: (.slice Agb ngb cgb) :: us.flatMap pC) g → w6.heap.size ≤ g ∧ g < w7.heap.size := LG.out
      clear HX0
      clear FX
      clear LXX hk1n hk1d
      have qFG0 := FG.out.cell 0
      have qFG1 := FG.out.cell 1
      have qFG2 := FG.out.cell 2
      go_wp2_with fail
      refine (markDesk_any w14 _ 1 _ _ _ us D HG.out.1 HG.out.2 HAP.out (HSD.out HS.out) (by decide) (by decide)).mono ?_
      rintro e w15 ⟨rfl, hg0, g⟩
      clear qFG0 qFG1 qFG2
      replace FA := Lib.hid (FA.out.more (g.block _ FA.out.lt (fun hh => by have := LGG _ hh; omega)))
      replace HW0 := Lib.hid (HW0.out.touch g (fun k hk hh => by have := LGG k hh; omega))
      replace FW := Lib.hid (FW.out.more (g.block _ FW.out.lt (fun hh => by have := LGG _ hh; omega)))
      replace FG := Lib.hid (FG.out.more (g.block _ FG.out.lt (fun hh => by have := LGG _ hh; omega)))
      replace HG := Lib.hid (show DkG _ _ _ _ _ _ (mD 1 D) from hg0)
      replace HB := Lib.hid (HB.out.trans (g.below (B := w.heap.size) (fun k hh => by have := LGG k hh; omega) HB.out.size))
      have zw15 := g.size
      clear g
      clear hg0
      obtain ⟨m1, hm1⟩ : ∃ m1 : Int, 1 + ((cD D : Nat) : Int) = m1 := ⟨_, rfl⟩
      rw [hm1]
      have hm1n : ¬ (m1 < 0) := by omega
      have hm1d : decide (m1 < 0) = false := decide_eq_false hm1n
      have HM := Lib.hid hm1
      clear hm1
      have qFG0 := FG.out.cell 0
      have qFG1 := FG.out.cell 1
      have qFG2 := FG.out.cell 2
      go_wp2_with fail
      refine (heldDesk_any w15 1 _ _ _ D HG.out.rd (HSD.out HS.out) (by decide) (by decide)).mono ?_
      rintro e w16 ⟨rfl, bw16⟩
      rw [HM.out]
      clear qFG0 qFG1 qFG2
      have zw16 := bw16.size
      replace FA := Lib.hid (FA.out.below15 bw16)
      replace HW0 := Lib.hid (HW0.out.below bw16)
      replace FW := Lib.hid (FW.out.below15 bw16)
      replace HG := Lib.hid (HG.out.below bw16)
      replace FG := Lib.hid (FG.out.below15 bw16)
      replace HB := Lib.hid (below_step HB.out bw16 HB.out.size)
      clear bw16
      have qFA0 := FA.out.cell 0
      have qFA1 := FA.out.cell 1
      go_wp2_with fail
      refine (toPlace_any w16 v u p (HA.out _ HB.out) HS.out).mono ?_
      rintro e w17 ⟨v17, u17, rfl, oq, oi, nd, bw17⟩
      have pl17 := pl_new (S := fun _ => True) oq oi (fun _ _ _ => trivial)
      clear qFA0 qFA1
      have zw17 := bw17.size
      replace FA := Lib.hid (FA.out.below15 bw17)
      replace HW0 := Lib.hid (HW0.out.below bw17)
      replace FW := Lib.hid (FW.out.below15 bw17)
      replace HG := Lib.hid (HG.out.below bw17)
      replace FG := Lib.hid (FG.out.below15 bw17)
      replace HB := Lib.hid (below_step HB.out bw17 HB.out.size)
      clear bw17
      have HT := Lib.hid pl17
      clear pl17 oq oi nd
      go_wp2_with fail
      refine (implDeskNew_any w17 v17 u17 p HT.out D HD.out).mono ?_
      rintro e w18 ⟨vh, uh, rh, rfl, dn, bw18⟩
      rw [HBB.out]
      obtain ⟨⟨Aha, nha, cha, rfl⟩, ⟨Ahb, nhb, chb, rfl⟩, Ahc, nhc, chc, rfl⟩ := dkForm dn.rd
      have zw18 := bw18.size
      replace FA := Lib.hid (FA.out.below15 bw18)
      replace HW0 := Lib.hid (HW0.out.below bw18)
      replace FW := Lib.hid (FW.out.below15 bw18)
      replace HG := Lib.hid (HG.out.below bw18)
      replace FG := Lib.hid (FG.out.below15 bw18)
      replace HB := Lib.hid (below_step HB.out bw18 HB.out.size)
      clear bw18
      have HH := Lib.hid (dn.rd)
      clear dn HT
      obtain ⟨w19, hw19⟩ : ∃ X, w18.alloc (.cells #[(.slice Aha nha cha), (.slice Ahb nhb chb), (.slice Ahc nhc chc)] 29) = X := ⟨_, rfl⟩
      have bw19 : Below w18.heap.size w18 w19 := by rw [← hw19]; exact (Below.refl _ _).alloc (Nat.le_refl _) _
      have FH := Lib.hid (show Blk w19 w18.heap.size 29 #[(.slice Aha nha cha), (.slice Ahb nhb chb), (.slice Ahc nhc chc)] by rw [← hw19]; exact heap_alloc_new _ _)
      have sw19 : w18.heap.size < w19.heap.size := by rw [← hw19]; simp
      have Ew19 := Lib.hid hw19
      clear hw19
      have zw19 := bw19.size
      replace FA := Lib.hid (FA.out.below15 bw19)
      replace HW0 := Lib.hid (HW0.out.below bw19)
      replace FW := Lib.hid (FW.out.below15 bw19)
      replace HG := Lib.hid (HG.out.below bw19)
      replace FG := Lib.hid (FG.out.below15 bw19)
      replace HH := Lib.hid (HH.out.below bw19)
      replace HB := Lib.hid (below_step HB.out bw19 HB.out.size)
      clear bw19
      go_upto_region 25 with fail
      rw [Ew19.out]
      clear Ew19
      have qFH0 := FH.out.cell 0
      have qFH1 := FH.out.cell 1
      have qFH2 := FH.out.cell 2
      have qFW0 := FW.out.cell 0
      have qFW1 := FW.out.cell 1
      have qFW2 := FW.out.cell 2
      go_wp2_with fail
      refine (eqDesk_any w19 _ _ _ _ _ _ D D HH.out HW0.out).mono ?_
      rintro e w20 ⟨rfl, bw20⟩
      rw [show decide (D = D) = true from by simp]
      clear qFH0 qFH1 qFH2 qFW0 qFW1 qFW2
      have zw20 := bw20.size
      replace FA := Lib.hid (FA.out.below15 bw20)
      replace HW0 := Lib.hid (HW0.out.below bw20)
      replace FW := Lib.hid (FW.out.below15 bw20)
      replace HG := Lib.hid (HG.out.below bw20)
      replace FG := Lib.hid (FG.out.below15 bw20)
      replace HH := Lib.hid (HH.out.below bw20)
      replace FH := Lib.hid (FH.out.below15 bw20)
      replace HB := Lib.hid (below_step HB.out bw20 HB.out.size)
      clear bw20
      have qFG0 := FG.out.cell 0
      have qFG1 := FG.out.cell 1
      have qFG2 := FG.out.cell 2
      go_wp2_with fail
      refine (heldDesk_any w20 1 _ _ _ D HG.out.rd (HSD.out HS.out) (by decide) (by decide)).mono ?_
      rintro e w21 ⟨rfl, bw21⟩
      rw [HM.out]
      clear qFG0 qFG1 qFG2
      have zw21 := bw21.size
      replace FA := Lib.hid (FA.out.below15 bw21)
      replace HW0 := Lib.hid (HW0.out.below bw21)
      replace FW := Lib.hid (FW.out.below15 bw21)
      replace HG := Lib.hid (HG.out.below bw21)
      replace FG := Lib.hid (FG.out.below15 bw21)
      replace HH := Lib.hid (HH.out.below bw21)
      replace FH := Lib.hid (FH.out.below15 bw21)
      replace HB := Lib.hid (below_step HB.out bw21 HB.out.size)
      clear bw21
      go_wp2_with fail
      go_ret
      exact ⟨rfl, HB.out⟩

end Go.Proofs.Ytebebcomhdjihaa
