/- The walks of the exact laws of wagers. Conditions: stated at each. (gen_zh.py) -/
import Derived.Test.YtfdlfgokoponmaaDoorZpd
import Derived.Test.YtfdlfgokoponmaaDoorZf
import Derived.Test.YtfdlfgokoponmaaDoorZd
namespace Go.Proofs.YtfdlfgokoponmaaDoor
open Go.RowKit
set_option linter.unusedVariables false

theorem xcells {w : World} {g : Nat} {t : TypeId} {a b c : Value} (h : Blk w g t #[a, b, c]) : w.cell? ⟨g, 0, none⟩ = some a ∧ w.cell? ⟨g, 1, none⟩ = some b ∧ w.cell? ⟨g, 2, none⟩ = some c := ⟨h.cell 0, h.cell 1, h.cell 2⟩

set_option maxRecDepth 100000 in
set_option maxHeartbeats 4000000 in
theorem FnExactWagerText_walk (s : Int) (v : Value) (z : List Qt) (p : Int) (w : World) (w0 : QRd w v z) (hnt : NTab w) :
    Calls Tryd.prog 5 #[.agg #[.int .i64 s, v, .int .i64 p]] w fun e w' => e = .returned (.bool true) ∧ Below w.heap.size w w' := by
  obtain ⟨A, c, rfl, hlc, hm⟩ := w0.form
  have HNT := Lib.hid hnt
  clear hnt
  by_cases hbig : 1048576 < z.length
  · have HV : Hid (∀ wr, Below w.heap.size w wr → QRd wr (.slice A z.length c) z) := Lib.hid (fun wr hb => w0.keep (SameAt.of_below hb))
    have HB1 : Hid (Below w.heap.size w (w.alloc (.cells #[.int .i64 s, .slice A z.length c, .int .i64 p] 37))) := Lib.hid (alloc_below w _)
    have HT1 : Hid (Blk (w.alloc (.cells #[.int .i64 s, .slice A z.length c, .int .i64 p] 37)) w.heap.size 37 #[.int .i64 s, .slice A z.length c, .int .i64 p]) := Lib.hid (blk_of w _ _)
    clear w0
    go_enter Tryd.func5, Tryd.ntmps5
    go_wp2_with fail
    generalize w.alloc (.cells #[.int .i64 s, .slice A z.length c, .int .i64 p] 37) = w1 at HB1 HT1 ⊢
    refine (szWager_big w1 s p A z.length c hbig (by omega)).mono ?_
    rintro e w2 ⟨rfl, b2⟩
    have HB2 := Lib.hid (below_step HB1.out b2 HB1.out.size)
    have HT2 := Lib.hid (HT1.out.below b2)
    clear HB1 HT1
    clear b2
    go_wp2_with fail
    go_ret
    exact ⟨rfl, HB2.out⟩
  · have hn : z.length ≤ 1048576 := by omega
    have hn' : (z.length : Int) ≤ 1048576 := by omega
    clear hbig
    obtain ⟨t, ht⟩ : ∃ t, wgT s z p = t := ⟨_, rfl⟩
    have HV : Hid (∀ wr, Below w.heap.size w wr → QRd wr (.slice A z.length c) z) := Lib.hid (fun wr hb => w0.keep (SameAt.of_below hb))
    have HB1 : Hid (Below w.heap.size w (w.alloc (.cells #[.int .i64 s, .slice A z.length c, .int .i64 p] 37))) := Lib.hid (alloc_below w _)
    have HT1 : Hid (Blk (w.alloc (.cells #[.int .i64 s, .slice A z.length c, .int .i64 p] 37)) w.heap.size 37 #[.int .i64 s, .slice A z.length c, .int .i64 p]) := Lib.hid (blk_of w _ _)
    clear w0
    go_enter Tryd.func5, Tryd.ntmps5
    go_wp2_with fail
    generalize w.alloc (.cells #[.int .i64 s, .slice A z.length c, .int .i64 p] 37) = w1 at HB1 HT1 ⊢
    refine (szWager_small w1 s p A z.length c hn).mono ?_
    rintro e w2 ⟨rfl, b2⟩
    have HB2 := Lib.hid (below_step HB1.out b2 HB1.out.size)
    have HT2 := Lib.hid (HT1.out.below b2)
    clear HB1 HT1
    clear b2
    have c0 : w2.cell? ⟨w.heap.size, 0, none⟩ = some (.int .i64 s) := HT2.out.cell 0
    have c1 : w2.cell? ⟨w.heap.size, 1, none⟩ = some (.slice A z.length c) := HT2.out.cell 1
    have c2 : w2.cell? ⟨w.heap.size, 2, none⟩ = some (.int .i64 p) := HT2.out.cell 2
    go_wp2_with fail
    clear c0 c1 c2
    refine (toWager_any w2 s _ z p (HV.out _ HB2.out) hn).mono ?_
    rintro e w3 ⟨Aa, ca, rfl, oa, b3⟩
    have HB3 := Lib.hid (below_step HB2.out b3 HB2.out.size)
    have HT3 := Lib.hid (HT2.out.below b3)
    clear HB2 HT2
    have Oa3 := Lib.hid oa
    clear oa b3
    go_wp2_with fail
    refine (specWagerText_any w3 s _ z p (GOwn.rd qC_len Oa3.out)).mono ?_
    rintro e w4 ⟨rfl, b4⟩
    have HB4 := Lib.hid (below_step HB3.out b4 HB3.out.size)
    have HT4 := Lib.hid (HT3.out.below b4)
    have Oa4 := Lib.hid (Oa3.out.keep (SameAt.of_below b4))
    clear HB3 HT3 Oa3
    clear b4
    rw [ht]
    clear Oa4
    have c0 : w4.cell? ⟨w.heap.size, 0, none⟩ = some (.int .i64 s) := HT4.out.cell 0
    have c1 : w4.cell? ⟨w.heap.size, 1, none⟩ = some (.slice A z.length c) := HT4.out.cell 1
    have c2 : w4.cell? ⟨w.heap.size, 2, none⟩ = some (.int .i64 p) := HT4.out.cell 2
    go_wp2_with fail
    clear c0 c1 c2
    refine (toWager_any w4 s _ z p (HV.out _ HB4.out) hn).mono ?_
    rintro e w5 ⟨Ax, cx, rfl, ox, b5⟩
    have HB5 := Lib.hid (below_step HB4.out b5 HB4.out.size)
    have HT5 := Lib.hid (HT4.out.below b5)
    clear HB4 HT4
    have Ox5 := Lib.hid ox
    clear ox b5
    have ba : Below w5.heap.size w5 (w5.alloc (.cells #[.int .i64 s, .slice Ax z.length cx, .int .i64 p] 25)) := alloc_below w5 _
    have HB6 := Lib.hid (below_step HB5.out ba HB5.out.size)
    have HT6 := Lib.hid (HT5.out.below ba)
    have Ox6 := Lib.hid (Ox5.out.keep (SameAt.of_below ba))
    have HX6 := Lib.hid (blk_of w5 25 #[.int .i64 s, .slice Ax z.length cx, .int .i64 p])
    clear ba HB5 HT5 Ox5
    go_wp2_with fail
    generalize w5.alloc (.cells #[.int .i64 s, .slice Ax z.length cx, .int .i64 p] 25) = w6 at HB6 HT6 HX6 Ox6 ⊢
    refine (implWagerText_any w6 s _ z p (GOwn.rd qC_len Ox6.out) (HNT.out.below HB6.out)).mono ?_
    rintro e w7 ⟨rfl, b7⟩
    have HB7 := Lib.hid (below_step HB6.out b7 HB6.out.size)
    have HT7 := Lib.hid (HT6.out.below b7)
    have HX7 := Lib.hid (HX6.out.below b7)
    have Ox7 := Lib.hid (Ox6.out.keep (SameAt.of_below b7))
    clear HB6 HT6 HX6 Ox6
    clear b7
    rw [ht]
    clear ht
    go_wp2_with fail
    have k0 : Below w7.heap.size w7 w7.drew := (Below.refl _ _).drew
    refine wp_region_held_drew (S := fun w' => Below w7.heap.size w7 w') (by kernel_rfl) k0 (fun hHeld => ?_)
    refine take_in (i := 0) (v := ?_) rfl (by kernel_rfl) (fun _ _ _ h => h) rfl ?_ hHeld ?_
    rotate_left
    · intro w' hSw
      obtain ⟨d0, d1, d2⟩ := xcells (HX7.out.below hSw)
      go_simp; all_goals with_reducible rfl
    try simp only [Act.put, List.setIfInBounds_toArray, List.set_cons_zero, List.set_cons_succ]
    refine take_in (i := 1) (v := ?_) rfl (by kernel_rfl) (fun _ _ _ h => h) rfl ?_ hHeld ?_
    rotate_left
    · intro w' hSw
      obtain ⟨d0, d1, d2⟩ := xcells (HT7.out.below hSw)
      go_simp; all_goals with_reducible rfl
    try simp only [Act.put, List.setIfInBounds_toArray, List.set_cons_zero, List.set_cons_succ]
    refine ready_one (i := 2) rfl (by kernel_rfl) (fun K hK => ?_)
    go_simp
    go_at_call 17
    refine (toWager_any _ s _ z p (HV.out _ (below_step HB7.out k0 HB7.out.size)) hn).mono ?_
    rintro e w8 ⟨Ae, ce, rfl, oe, be⟩
    have k1 := below_step k0 be k0.size
    refine hK.out _ w8 k1 (fun hHeld => ?_)
    clear hK K be
    try simp only [Act.put, List.setIfInBounds_toArray, List.set_cons_zero, List.set_cons_succ]
    refine ready_one (i := 3) rfl (by kernel_rfl) (fun K hK => ?_)
    go_simp
    go_at_call 18
    refine (eqWager_same w8 s p _ _ z (GOwn.rd qC_len (Ox7.out.keep (SameAt.of_below k1))) (GOwn.rd qC_len oe)).mono ?_
    rintro e w9 ⟨rfl, be2⟩
    have k2 := below_step k1 be2 k1.size
    refine hK.out _ w9 k2 (fun hHeld => ?_)
    clear hK K be2 oe
    try simp only [Act.put, List.setIfInBounds_toArray, List.set_cons_zero, List.set_cons_succ]
    refine take_in (i := 4) (v := ?_) rfl (by kernel_rfl) (fun _ _ _ h => h) rfl ?_ hHeld ?_
    rotate_left
    · intro w hSw; go_simp; all_goals with_reducible rfl
    try simp only [Act.put, List.setIfInBounds_toArray, List.set_cons_zero, List.set_cons_succ]
    refine wpAnyH_done (by kernel_rfl) ?_ _
    clear k0 k1
    have HB9 := Lib.hid (below_step HB7.out k2 HB7.out.size)
    have HT9 := Lib.hid (HT7.out.below k2)
    have HX9 := Lib.hid (HX7.out.below k2)
    have Ox9 := Lib.hid (Ox7.out.keep (SameAt.of_below k2))
    clear k2 HB7 HT7 HX7 Ox7
    go_wp2_with fail
    go_ret
    exact ⟨rfl, HB9.out⟩

theorem far_of {g0 v : Value} (h : ∀ g, g0.ownBlock = some g → ∀ h, v.ownBlock = some h → g ≠ h) : v.ownBlock = none ∨ v.ownBlock ≠ g0.ownBlock := by
  rcases hv : v.ownBlock with _ | b
  · exact .inl rfl
  · exact .inr fun e => h b e.symm b hv rfl

theorem wgR_len (s : Int) (t : List Mk) (p : Int) : (wgR s t p).length ≤ 4 := by
  unfold wgR
  split
  · rw [gainL_len]; decide
  · simp

theorem rwL_len (S : ByteArray) : (rwL S).length ≤ 40 := by
  cases h : rwB S with
  | true => obtain ⟨s, T, p, hT, -, e, -⟩ := rw_tree h; rw [e]; exact hT.2.2.2
  | false =>
    have hx : ¬ ∃ s T p, WReadsB (bs S) s T p := by simpa only [rwB, decide_eq_false_iff_not] using h
    rw [show rwL S = [] from by unfold rwL; exact dif_neg hx]; simp

set_option maxRecDepth 100000 in
set_option maxHeartbeats 4000000 in
theorem FnExactReadWager_walk (S : ByteArray) (w : World) (w0 : S.size ≤ 9223372036854775807) (hnt : NTab w) (het : ETab w) :
    Calls Tryd.prog 6 #[.string S] w fun e w' => e = .returned (.bool true) ∧ Below w.heap.size w w' := by
  have HNT := Lib.hid hnt
  have HET := Lib.hid het
  clear hnt het
  by_cases hbig : 1048576 < S.size
  · have hbig' : (1048576 : Int) < (S.size : Int) := by omega
    go_enter Tryd.func6, Tryd.ntmps6
    go_wp2_with fail
    go_ret
    exact ⟨rfl, Below.refl _ _⟩
  · have hsm : (S.size : Int) ≤ 1048576 := by omega
    have hS : S.size ≤ 2000000 := by omega
    have hl := rwL_len S
    obtain ⟨s, hs⟩ : ∃ s, rwS S = s := ⟨_, rfl⟩
    obtain ⟨p, hp⟩ : ∃ p, rwP S = p := ⟨_, rfl⟩
    obtain ⟨z, hz⟩ : ∃ z, rwL S = z := ⟨_, rfl⟩
    obtain ⟨t, ht⟩ : ∃ t, rwB S = t := ⟨_, rfl⟩
    rw [hz] at hl
    have hn : z.length ≤ 1048576 := by omega
    have hk0 : ¬ (1 + 2 * (z.length : Int) < 0) := by omega
    go_enter Tryd.func6, Tryd.ntmps6
    cases t
    all_goals
      go_wp2_with fail
      refine (specReadWager_any S hS w).mono ?_
      rintro e w1 ⟨vw, rfl, ow, b1⟩
      rw [hs, hp, ht]
      rw [hz] at ow
      obtain ⟨Aw, cw, rfl, -, -⟩ := (GOwn.rd qC_len ow).form
      have HB1 := Lib.hid b1
      have Ow1 := Lib.hid ow
      clear b1 ow
      have ba : Below w1.heap.size w1 (w1.alloc (.cells #[.int .i64 s, .slice Aw z.length cw, .int .i64 p] 25)) := alloc_below w1 _
      have HB2 := Lib.hid (below_step HB1.out ba HB1.out.size)
      have Ow2 := Lib.hid (Ow1.out.keep (SameAt.of_below ba))
      have HWB2 := Lib.hid (blk_of w1 25 #[.int .i64 s, .slice Aw z.length cw, .int .i64 p])
      clear ba HB1 Ow1
      go_wp2_with fail
      generalize w1.alloc (.cells #[.int .i64 s, .slice Aw z.length cw, .int .i64 p] 25) = w2 at HB2 HWB2 Ow2 ⊢
      refine (implReadWager_any S hS w2 (HNT.out.below HB2.out) (HET.out.below HB2.out)).mono ?_
      rintro e w3 ⟨vg, rfl, og, b3⟩
      rw [hs, hp, ht]
      rw [hz] at og
      obtain ⟨Ag, cg, rfl, -, -⟩ := (GOwn.rd qC_len og).form
      have HGW : Hid (∀ g, (Value.slice Ag z.length cg).ownBlock = some g → ∀ h, (Value.slice Aw z.length cw).ownBlock = some h → g ≠ h) := Lib.hid (fun g hg h hh => by have h1 := (GOwn.ge og g hg).1; have h2 := (GOwn.ge Ow2.out h hh).2; omega)
      have HNW : Hid ((Value.slice Ag z.length cg).ownBlock ≠ some w1.heap.size) := Lib.hid (fun e => by have h1 := (GOwn.ge og _ e).1; have h2 := HWB2.out.lt; omega)
      have HTG : Hid (∀ g, (Value.slice Ag z.length cg).ownBlock = some g → w.heap.size ≤ g) := Lib.hid (fun g hg => by have h1 := (GOwn.ge og g hg).1; have h2 := HB2.out.size; omega)
      have HB3 := Lib.hid (below_step HB2.out b3 HB2.out.size)
      have HWB3 := Lib.hid (HWB2.out.below b3)
      have Ow3 := Lib.hid (Ow2.out.keep (SameAt.of_below b3))
      clear HB2 HWB2 Ow2
      have Og3 := Lib.hid og
      clear b3 og
      have HNG : Hid ((Value.slice Ag z.length cg).ownBlock ≠ some w3.heap.size) := Lib.hid (fun e => by have h1 := (GOwn.ge Og3.out _ e).2; omega)
      have ba : Below w3.heap.size w3 (w3.alloc (.cells #[.int .i64 s, .slice Ag z.length cg, .int .i64 p] 25)) := alloc_below w3 _
      have HB4 := Lib.hid (below_step HB3.out ba HB3.out.size)
      have HWB4 := Lib.hid (HWB3.out.below ba)
      have Ow4 := Lib.hid (Ow3.out.keep (SameAt.of_below ba))
      have Og4 := Lib.hid (Og3.out.keep (SameAt.of_below ba))
      have HGB4 := Lib.hid (blk_of w3 25 #[.int .i64 s, .slice Ag z.length cg, .int .i64 p])
      clear ba HB3 HWB3 Ow3 Og3
      have d00 : (w3.alloc (.cells #[.int .i64 s, .slice Ag z.length cg, .int .i64 p] 25)).cell? ⟨w1.heap.size, 0, none⟩ = some (.int .i64 s) := HWB4.out.cell 0
      have d01 : (w3.alloc (.cells #[.int .i64 s, .slice Ag z.length cg, .int .i64 p] 25)).cell? ⟨w1.heap.size, 1, none⟩ = some (.slice Aw z.length cw) := HWB4.out.cell 1
      have d02 : (w3.alloc (.cells #[.int .i64 s, .slice Ag z.length cg, .int .i64 p] 25)).cell? ⟨w1.heap.size, 2, none⟩ = some (.int .i64 p) := HWB4.out.cell 2
      go_wp2_with fail
      clear d00 d01 d02
      generalize w3.alloc (.cells #[.int .i64 s, .slice Ag z.length cg, .int .i64 p] 25) = w4 at HB4 HWB4 HGB4 Ow4 Og4 ⊢
      refine (eqWager_same w4 s p _ _ z (GOwn.rd qC_len Og4.out) (GOwn.rd qC_len Ow4.out)).mono ?_
      rintro e w5 ⟨rfl, b5⟩
      have HB5 := Lib.hid (below_step HB4.out b5 HB4.out.size)
      have HWB5 := Lib.hid (HWB4.out.below b5)
      have HGB5 := Lib.hid (HGB4.out.below b5)
      have Ow5 := Lib.hid (Ow4.out.keep (SameAt.of_below b5))
      have Og5 := Lib.hid (Og4.out.keep (SameAt.of_below b5))
      clear HB4 HWB4 HGB4 Ow4 Og4
      clear b5
      have c0 : w5.cell? ⟨w3.heap.size, 0, none⟩ = some (.int .i64 s) := HGB5.out.cell 0
      have c1 : w5.cell? ⟨w3.heap.size, 1, none⟩ = some (.slice Ag z.length cg) := HGB5.out.cell 1
      have c2 : w5.cell? ⟨w3.heap.size, 2, none⟩ = some (.int .i64 p) := HGB5.out.cell 2
      go_wp2_with fail
      clear c0 c1 c2
      refine (markWager_any w5 _ 1 s p _ z Og5.out hn (by omega) (by omega)).mono ?_
      rintro e w6 ⟨rfl, gm, ym, om⟩
      have HB6 := Lib.hid (HB5.out.grown gm HB5.out.size (fun g hg => HTG.out g hg))
      have HWB6 := Lib.hid (HWB5.out.grown9 gm HNW.out)
      have HGB6 := Lib.hid (HGB5.out.grown9 gm HNG.out)
      have Ow6 := Lib.hid (Ow5.out.keep (SameAt.of_grown gm (far_of HGW.out)))
      have Og6 : Hid (MOwn w6 _ (.slice Ag z.length cg) (mUp 1 z z.length)) := Lib.hid om
      clear HB5 HWB5 HGB5 Ow5 Og5 gm ym om HGW HNW HTG HNG
      have c0 : w6.cell? ⟨w3.heap.size, 0, none⟩ = some (.int .i64 s) := HGB6.out.cell 0
      have c1 : w6.cell? ⟨w3.heap.size, 1, none⟩ = some (.slice Ag z.length cg) := HGB6.out.cell 1
      have c2 : w6.cell? ⟨w3.heap.size, 2, none⟩ = some (.int .i64 p) := HGB6.out.cell 2
      go_wp2_with fail
      clear c0 c1 c2
      refine (heldWager_any w6 1 s p _ z (GOwn.rd qC_len Og6.out) hn (by omega) (by omega)).mono ?_
      rintro e w7 ⟨rfl, b7⟩
      have HB7 := Lib.hid (below_step HB6.out b7 HB6.out.size)
      have HWB7 := Lib.hid (HWB6.out.below b7)
      have HGB7 := Lib.hid (HGB6.out.below b7)
      have Ow7 := Lib.hid (Ow6.out.keep (SameAt.of_below b7))
      have Og7 := Lib.hid (Og6.out.keep (SameAt.of_below b7))
      clear HB6 HWB6 HGB6 Ow6 Og6
      clear b7
      go_wp2_with fail
      refine (implReadWager_any S hS w7 (HNT.out.below HB7.out) (HET.out.below HB7.out)).mono ?_
      rintro e w8 ⟨vh, rfl, oh, b8⟩
      rw [hs, hp, ht]
      rw [hz] at oh
      obtain ⟨Ah, ch, rfl, -, -⟩ := (GOwn.rd qC_len oh).form
      have HB8 := Lib.hid (below_step HB7.out b8 HB7.out.size)
      have HWB8 := Lib.hid (HWB7.out.below b8)
      have HGB8 := Lib.hid (HGB7.out.below b8)
      have Ow8 := Lib.hid (Ow7.out.keep (SameAt.of_below b8))
      have Og8 := Lib.hid (Og7.out.keep (SameAt.of_below b8))
      clear HB7 HWB7 HGB7 Ow7 Og7
      have Oh8 := Lib.hid oh
      clear b8 oh
      have ba : Below w8.heap.size w8 (w8.alloc (.cells #[.int .i64 s, .slice Ah z.length ch, .int .i64 p] 25)) := alloc_below w8 _
      have HB9 := Lib.hid (below_step HB8.out ba HB8.out.size)
      have HWB9 := Lib.hid (HWB8.out.below ba)
      have HGB9 := Lib.hid (HGB8.out.below ba)
      have Ow9 := Lib.hid (Ow8.out.keep (SameAt.of_below ba))
      have Og9 := Lib.hid (Og8.out.keep (SameAt.of_below ba))
      have Oh9 := Lib.hid (Oh8.out.keep (SameAt.of_below ba))
      have HUB9 := Lib.hid (blk_of w8 25 #[.int .i64 s, .slice Ah z.length ch, .int .i64 p])
      clear ba HB8 HWB8 HGB8 Ow8 Og8 Oh8
      have d00 : (w8.alloc (.cells #[.int .i64 s, .slice Ah z.length ch, .int .i64 p] 25)).cell? ⟨w1.heap.size, 0, none⟩ = some (.int .i64 s) := HWB9.out.cell 0
      have d01 : (w8.alloc (.cells #[.int .i64 s, .slice Ah z.length ch, .int .i64 p] 25)).cell? ⟨w1.heap.size, 1, none⟩ = some (.slice Aw z.length cw) := HWB9.out.cell 1
      have d02 : (w8.alloc (.cells #[.int .i64 s, .slice Ah z.length ch, .int .i64 p] 25)).cell? ⟨w1.heap.size, 2, none⟩ = some (.int .i64 p) := HWB9.out.cell 2
      go_wp2_with fail
      clear d00 d01 d02
      generalize w8.alloc (.cells #[.int .i64 s, .slice Ah z.length ch, .int .i64 p] 25) = w9 at HB9 HWB9 HGB9 HUB9 Ow9 Og9 Oh9 ⊢
      refine (eqWager_same w9 s p _ _ z (GOwn.rd qC_len Oh9.out) (GOwn.rd qC_len Ow9.out)).mono ?_
      rintro e w10 ⟨rfl, b10⟩
      have HB10 := Lib.hid (below_step HB9.out b10 HB9.out.size)
      have HWB10 := Lib.hid (HWB9.out.below b10)
      have HGB10 := Lib.hid (HGB9.out.below b10)
      have HUB10 := Lib.hid (HUB9.out.below b10)
      have Ow10 := Lib.hid (Ow9.out.keep (SameAt.of_below b10))
      have Og10 := Lib.hid (Og9.out.keep (SameAt.of_below b10))
      have Oh10 := Lib.hid (Oh9.out.keep (SameAt.of_below b10))
      clear HB9 HWB9 HGB9 HUB9 Ow9 Og9 Oh9
      clear b10
      have c0 : w10.cell? ⟨w3.heap.size, 0, none⟩ = some (.int .i64 s) := HGB10.out.cell 0
      have c1 : w10.cell? ⟨w3.heap.size, 1, none⟩ = some (.slice Ag z.length cg) := HGB10.out.cell 1
      have c2 : w10.cell? ⟨w3.heap.size, 2, none⟩ = some (.int .i64 p) := HGB10.out.cell 2
      go_wp2_with fail
      clear c0 c1 c2
      refine (heldWager_any w10 1 s p _ z (GOwn.rd qC_len Og10.out) hn (by omega) (by omega)).mono ?_
      rintro e w11 ⟨rfl, b11⟩
      have HB11 := Lib.hid (below_step HB10.out b11 HB10.out.size)
      have HWB11 := Lib.hid (HWB10.out.below b11)
      have HGB11 := Lib.hid (HGB10.out.below b11)
      have HUB11 := Lib.hid (HUB10.out.below b11)
      have Ow11 := Lib.hid (Ow10.out.keep (SameAt.of_below b11))
      have Og11 := Lib.hid (Og10.out.keep (SameAt.of_below b11))
      have Oh11 := Lib.hid (Oh10.out.keep (SameAt.of_below b11))
      clear HB10 HWB10 HGB10 HUB10 Ow10 Og10 Oh10
      clear b11
      go_wp2_with fail
      go_ret
      exact ⟨rfl, HB11.out⟩

end Go.Proofs.YtfdlfgokoponmaaDoor
