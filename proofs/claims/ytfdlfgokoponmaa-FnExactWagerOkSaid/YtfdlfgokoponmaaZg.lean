/- The walks of the exact laws of wagers. Conditions: stated at each. (gen_zg.py) -/
import Derived.Test.YtfdlfgokoponmaaZp
import Derived.Test.YtfdlfgokoponmaaZe
import Derived.Test.YtfdlfgokoponmaaZf
import Derived.Test.YtfdlfgokoponmaaZd
namespace Go.Proofs.Ytfdlfgokoponmaa
open Go.RowKit
set_option linter.unusedVariables false

theorem xcells {w : World} {g : Nat} {t : TypeId} {a b c : Value} (h : Blk w g t #[a, b, c]) : w.cell? ⟨g, 0, none⟩ = some a ∧ w.cell? ⟨g, 1, none⟩ = some b ∧ w.cell? ⟨g, 2, none⟩ = some c := ⟨h.cell 0, h.cell 1, h.cell 2⟩

set_option maxRecDepth 100000 in
set_option maxHeartbeats 4000000 in
theorem FnExactWagerOk_walk (s : Int) (v : Value) (z : List Qt) (p : Int) (w : World) (w0 : QRd w v z) :
    Calls Try.prog 6 #[.agg #[.int .i64 s, v, .int .i64 p]] w fun e w' => e = .returned (.bool true) ∧ Below w.heap.size w w' := by
  obtain ⟨A, c, rfl, hlc, hm⟩ := w0.form
  by_cases hbig : 1048576 < z.length
  · have HV : Hid (∀ wr, Below w.heap.size w wr → QRd wr (.slice A z.length c) z) := Lib.hid (fun wr hb => w0.keep (SameAt.of_below hb))
    have HB1 : Hid (Below w.heap.size w (w.alloc (.cells #[.int .i64 s, .slice A z.length c, .int .i64 p] 39))) := Lib.hid (alloc_below w _)
    have HT1 : Hid (Blk (w.alloc (.cells #[.int .i64 s, .slice A z.length c, .int .i64 p] 39)) w.heap.size 39 #[.int .i64 s, .slice A z.length c, .int .i64 p]) := Lib.hid (blk_of w _ _)
    clear w0
    go_enter Try.func6, Try.ntmps6
    go_wp2_with fail
    generalize w.alloc (.cells #[.int .i64 s, .slice A z.length c, .int .i64 p] 39) = w1 at HB1 HT1 ⊢
    refine (szWager_big w1 s p A z.length c hbig (by omega)).mono ?_
    rintro e w2 ⟨rfl, b2⟩
    have HB2 := Lib.hid (below_step HB1.out b2 HB1.out.size)
    have HT2 := Lib.hid (HT1.out.below b2)
    clear HB1 HT1
    clear b2
    go_wp2_with fail
    go_ret
    exact ⟨rfl, HB2.out⟩
  · have hn : z.length ≤ 1048576 := by omega
    have hn' : (z.length : Int) ≤ 1048576 := by omega
    clear hbig
    obtain ⟨t, ht⟩ : ∃ t, wgB s z p = t := ⟨_, rfl⟩
    have HV : Hid (∀ wr, Below w.heap.size w wr → QRd wr (.slice A z.length c) z) := Lib.hid (fun wr hb => w0.keep (SameAt.of_below hb))
    have HB1 : Hid (Below w.heap.size w (w.alloc (.cells #[.int .i64 s, .slice A z.length c, .int .i64 p] 39))) := Lib.hid (alloc_below w _)
    have HT1 : Hid (Blk (w.alloc (.cells #[.int .i64 s, .slice A z.length c, .int .i64 p] 39)) w.heap.size 39 #[.int .i64 s, .slice A z.length c, .int .i64 p]) := Lib.hid (blk_of w _ _)
    clear w0
    go_enter Try.func6, Try.ntmps6
    go_wp2_with fail
    generalize w.alloc (.cells #[.int .i64 s, .slice A z.length c, .int .i64 p] 39) = w1 at HB1 HT1 ⊢
    refine (szWager_small w1 s p A z.length c hn).mono ?_
    rintro e w2 ⟨rfl, b2⟩
    have HB2 := Lib.hid (below_step HB1.out b2 HB1.out.size)
    have HT2 := Lib.hid (HT1.out.below b2)
    clear HB1 HT1
    clear b2
    have c0 : w2.cell? ⟨w.heap.size, 0, none⟩ = some (.int .i64 s) := HT2.out.cell 0
    have c1 : w2.cell? ⟨w.heap.size, 1, none⟩ = some (.slice A z.length c) := HT2.out.cell 1
    have c2 : w2.cell? ⟨w.heap.size, 2, none⟩ = some (.int .i64 p) := HT2.out.cell 2
    go_wp2_with fail
    clear c0 c1 c2
    refine (toWager_any w2 s _ z p (HV.out _ HB2.out) hn).mono ?_
    rintro e w3 ⟨Aa, ca, rfl, oa, b3⟩
    have HB3 := Lib.hid (below_step HB2.out b3 HB2.out.size)
    have HT3 := Lib.hid (HT2.out.below b3)
    clear HB2 HT2
    have Oa3 := Lib.hid oa
    clear oa b3
    go_wp2_with fail
    refine (specWagerOk_any w3 s _ z p (GOwn.rd qC_len Oa3.out)).mono ?_
    rintro e w4 ⟨rfl, b4⟩
    have HB4 := Lib.hid (below_step HB3.out b4 HB3.out.size)
    have HT4 := Lib.hid (HT3.out.below b4)
    have Oa4 := Lib.hid (Oa3.out.keep (SameAt.of_below b4))
    clear HB3 HT3 Oa3
    clear b4
    rw [ht]
    clear Oa4
    have c0 : w4.cell? ⟨w.heap.size, 0, none⟩ = some (.int .i64 s) := HT4.out.cell 0
    have c1 : w4.cell? ⟨w.heap.size, 1, none⟩ = some (.slice A z.length c) := HT4.out.cell 1
    have c2 : w4.cell? ⟨w.heap.size, 2, none⟩ = some (.int .i64 p) := HT4.out.cell 2
    go_wp2_with fail
    clear c0 c1 c2
    refine (toWager_any w4 s _ z p (HV.out _ HB4.out) hn).mono ?_
    rintro e w5 ⟨Ax, cx, rfl, ox, b5⟩
    have HB5 := Lib.hid (below_step HB4.out b5 HB4.out.size)
    have HT5 := Lib.hid (HT4.out.below b5)
    clear HB4 HT4
    have Ox5 := Lib.hid ox
    clear ox b5
    have ba : Below w5.heap.size w5 (w5.alloc (.cells #[.int .i64 s, .slice Ax z.length cx, .int .i64 p] 25)) := alloc_below w5 _
    have HB6 := Lib.hid (below_step HB5.out ba HB5.out.size)
    have HT6 := Lib.hid (HT5.out.below ba)
    have Ox6 := Lib.hid (Ox5.out.keep (SameAt.of_below ba))
    have HX6 := Lib.hid (blk_of w5 25 #[.int .i64 s, .slice Ax z.length cx, .int .i64 p])
    clear ba HB5 HT5 Ox5
    go_wp2_with fail
    generalize w5.alloc (.cells #[.int .i64 s, .slice Ax z.length cx, .int .i64 p] 25) = w6 at HB6 HT6 HX6 Ox6 ⊢
    refine (implWagerOk_any w6 s _ z p (GOwn.rd qC_len Ox6.out)).mono ?_
    rintro e w7 ⟨rfl, b7⟩
    have HB7 := Lib.hid (below_step HB6.out b7 HB6.out.size)
    have HT7 := Lib.hid (HT6.out.below b7)
    have HX7 := Lib.hid (HX6.out.below b7)
    have Ox7 := Lib.hid (Ox6.out.keep (SameAt.of_below b7))
    clear HB6 HT6 HX6 Ox6
    clear b7
    rw [ht]
    clear ht
    cases t
    all_goals
      go_wp2_with fail
      have k0 : Below w7.heap.size w7 w7.drew := (Below.refl _ _).drew
      refine wp_region_held_drew (S := fun w' => Below w7.heap.size w7 w') (by kernel_rfl) k0 (fun hHeld => ?_)
      refine take_in (i := 0) (v := ?_) rfl (by kernel_rfl) (fun _ _ _ h => h) rfl ?_ hHeld ?_
      rotate_left
      · intro w' hSw
        obtain ⟨d0, d1, d2⟩ := xcells (HX7.out.below hSw)
        go_simp; all_goals with_reducible rfl
      try simp only [Act.put, List.setIfInBounds_toArray, List.set_cons_zero, List.set_cons_succ]
      refine take_in (i := 1) (v := ?_) rfl (by kernel_rfl) (fun _ _ _ h => h) rfl ?_ hHeld ?_
      rotate_left
      · intro w' hSw
        obtain ⟨d0, d1, d2⟩ := xcells (HT7.out.below hSw)
        go_simp; all_goals with_reducible rfl
      try simp only [Act.put, List.setIfInBounds_toArray, List.set_cons_zero, List.set_cons_succ]
      refine ready_one (i := 2) rfl (by kernel_rfl) (fun K hK => ?_)
      go_simp
      go_at_call 19
      refine (toWager_any _ s _ z p (HV.out _ (below_step HB7.out k0 HB7.out.size)) hn).mono ?_
      rintro e w8 ⟨Ae, ce, rfl, oe, be⟩
      have k1 := below_step k0 be k0.size
      refine hK.out _ w8 k1 (fun hHeld => ?_)
      clear hK K be
      try simp only [Act.put, List.setIfInBounds_toArray, List.set_cons_zero, List.set_cons_succ]
      refine ready_one (i := 3) rfl (by kernel_rfl) (fun K hK => ?_)
      go_simp
      go_at_call 20
      refine (eqWager_same w8 s p _ _ z (GOwn.rd qC_len (Ox7.out.keep (SameAt.of_below k1))) (GOwn.rd qC_len oe)).mono ?_
      rintro e w9 ⟨rfl, be2⟩
      have k2 := below_step k1 be2 k1.size
      refine hK.out _ w9 k2 (fun hHeld => ?_)
      clear hK K be2 oe
      try simp only [Act.put, List.setIfInBounds_toArray, List.set_cons_zero, List.set_cons_succ]
      refine take_in (i := 4) (v := ?_) rfl (by kernel_rfl) (fun _ _ _ h => h) rfl ?_ hHeld ?_
      rotate_left
      · intro w hSw; go_simp; all_goals with_reducible rfl
      try simp only [Act.put, List.setIfInBounds_toArray, List.set_cons_zero, List.set_cons_succ]
      refine wpAnyH_done (by kernel_rfl) ?_ _
      clear k0 k1
      have HB9 := Lib.hid (below_step HB7.out k2 HB7.out.size)
      have HT9 := Lib.hid (HT7.out.below k2)
      have HX9 := Lib.hid (HX7.out.below k2)
      have Ox9 := Lib.hid (Ox7.out.keep (SameAt.of_below k2))
      clear k2 HB7 HT7 HX7 Ox7
      go_wp2_with fail
      go_ret
      exact ⟨rfl, HB9.out⟩

theorem far_of {g0 v : Value} (h : ∀ g, g0.ownBlock = some g → ∀ h, v.ownBlock = some h → g ≠ h) : v.ownBlock = none ∨ v.ownBlock ≠ g0.ownBlock := by
  rcases hv : v.ownBlock with _ | b
  · exact .inl rfl
  · exact .inr fun e => h b e.symm b hv rfl

theorem wgR_len (s : Int) (t : List Mk) (p : Int) : (wgR s t p).length ≤ 4 := by
  unfold wgR
  split
  · rw [gainL_len]; decide
  · simp

set_option maxRecDepth 100000 in
set_option maxHeartbeats 4000000 in
theorem FnExactWagerGain_walk (s : Int) (v : Value) (z : List Qt) (p : Int) (w : World) (w0 : QRd w v z) :
    Calls Try.prog 7 #[.agg #[.int .i64 s, v, .int .i64 p]] w fun e w' => e = .returned (.bool true) ∧ Below w.heap.size w w' := by
  obtain ⟨A, c, rfl, hlc, hm⟩ := w0.form
  by_cases hbig : 1048576 < z.length
  · have HV : Hid (∀ wr, Below w.heap.size w wr → QRd wr (.slice A z.length c) z) := Lib.hid (fun wr hb => w0.keep (SameAt.of_below hb))
    have HB1 : Hid (Below w.heap.size w (w.alloc (.cells #[.int .i64 s, .slice A z.length c, .int .i64 p] 39))) := Lib.hid (alloc_below w _)
    have HT1 : Hid (Blk (w.alloc (.cells #[.int .i64 s, .slice A z.length c, .int .i64 p] 39)) w.heap.size 39 #[.int .i64 s, .slice A z.length c, .int .i64 p]) := Lib.hid (blk_of w _ _)
    clear w0
    go_enter Try.func7, Try.ntmps7
    go_wp2_with fail
    generalize w.alloc (.cells #[.int .i64 s, .slice A z.length c, .int .i64 p] 39) = w1 at HB1 HT1 ⊢
    refine (szWager_big w1 s p A z.length c hbig (by omega)).mono ?_
    rintro e w2 ⟨rfl, b2⟩
    have HB2 := Lib.hid (below_step HB1.out b2 HB1.out.size)
    have HT2 := Lib.hid (HT1.out.below b2)
    clear HB1 HT1
    clear b2
    go_wp2_with fail
    go_ret
    exact ⟨rfl, HB2.out⟩
  · have hn : z.length ≤ 1048576 := by omega
    have hn' : (z.length : Int) ≤ 1048576 := by omega
    clear hbig
    obtain ⟨t, ht⟩ : ∃ t, wgR s z p = t := ⟨_, rfl⟩
    have hlt : t.length ≤ 4 := by rw [← ht]; exact wgR_len s z p
    have HV : Hid (∀ wr, Below w.heap.size w wr → QRd wr (.slice A z.length c) z) := Lib.hid (fun wr hb => w0.keep (SameAt.of_below hb))
    have HB1 : Hid (Below w.heap.size w (w.alloc (.cells #[.int .i64 s, .slice A z.length c, .int .i64 p] 39))) := Lib.hid (alloc_below w _)
    have HT1 : Hid (Blk (w.alloc (.cells #[.int .i64 s, .slice A z.length c, .int .i64 p] 39)) w.heap.size 39 #[.int .i64 s, .slice A z.length c, .int .i64 p]) := Lib.hid (blk_of w _ _)
    clear w0
    go_enter Try.func7, Try.ntmps7
    go_wp2_with fail
    generalize w.alloc (.cells #[.int .i64 s, .slice A z.length c, .int .i64 p] 39) = w1 at HB1 HT1 ⊢
    refine (szWager_small w1 s p A z.length c hn).mono ?_
    rintro e w2 ⟨rfl, b2⟩
    have HB2 := Lib.hid (below_step HB1.out b2 HB1.out.size)
    have HT2 := Lib.hid (HT1.out.below b2)
    clear HB1 HT1
    clear b2
    have c0 : w2.cell? ⟨w.heap.size, 0, none⟩ = some (.int .i64 s) := HT2.out.cell 0
    have c1 : w2.cell? ⟨w.heap.size, 1, none⟩ = some (.slice A z.length c) := HT2.out.cell 1
    have c2 : w2.cell? ⟨w.heap.size, 2, none⟩ = some (.int .i64 p) := HT2.out.cell 2
    go_wp2_with fail
    clear c0 c1 c2
    refine (toWager_any w2 s _ z p (HV.out _ HB2.out) hn).mono ?_
    rintro e w3 ⟨Aa, ca, rfl, oa, b3⟩
    have HB3 := Lib.hid (below_step HB2.out b3 HB2.out.size)
    have HT3 := Lib.hid (HT2.out.below b3)
    clear HB2 HT2
    have Oa3 := Lib.hid oa
    clear oa b3
    go_wp2_with fail
    refine (specWagerGain_any w3 s _ z p (GOwn.rd qC_len Oa3.out)).mono ?_
    rintro e w4 ⟨vw, rfl, ow, b4⟩
    rw [ht] at ow
    have HB4 := Lib.hid (below_step HB3.out b4 HB3.out.size)
    have HT4 := Lib.hid (HT3.out.below b4)
    have Oa4 := Lib.hid (Oa3.out.keep (SameAt.of_below b4))
    clear HB3 HT3 Oa3
    have Ow4 := Lib.hid ow
    clear b4 ow
    clear Oa4
    have c0 : w4.cell? ⟨w.heap.size, 0, none⟩ = some (.int .i64 s) := HT4.out.cell 0
    have c1 : w4.cell? ⟨w.heap.size, 1, none⟩ = some (.slice A z.length c) := HT4.out.cell 1
    have c2 : w4.cell? ⟨w.heap.size, 2, none⟩ = some (.int .i64 p) := HT4.out.cell 2
    go_wp2_with fail
    clear c0 c1 c2
    refine (toWager_any w4 s _ z p (HV.out _ HB4.out) hn).mono ?_
    rintro e w5 ⟨Ax, cx, rfl, ox, b5⟩
    have HNW : Hid (∀ g, (Value.slice Ax z.length cx).ownBlock = some g → ∀ h, vw.ownBlock = some h → g ≠ h) := Lib.hid (fun g hg h hh => by have h1 := (GOwn.ge ox g hg).1; have h2 := (Ow4.out.ge h hh).2; omega)
    have HTX : Hid (∀ g, (Value.slice Ax z.length cx).ownBlock = some g → w.heap.size < g) := Lib.hid (fun g hg => by have h1 := (GOwn.ge ox g hg).1; have h2 := HT4.out.lt; omega)
    have HB5 := Lib.hid (below_step HB4.out b5 HB4.out.size)
    have HT5 := Lib.hid (HT4.out.below b5)
    have Ow5 := Lib.hid (Ow4.out.keep (SameAt.of_below b5))
    clear HB4 HT4 Ow4
    have Ox5 := Lib.hid ox
    clear ox b5
    have ba : Below w5.heap.size w5 (w5.alloc (.cells #[.int .i64 s, .slice Ax z.length cx, .int .i64 p] 25)) := alloc_below w5 _
    have HB6 := Lib.hid (below_step HB5.out ba HB5.out.size)
    have HT6 := Lib.hid (HT5.out.below ba)
    have Ow6 := Lib.hid (Ow5.out.keep (SameAt.of_below ba))
    have Ox6 := Lib.hid (Ox5.out.keep (SameAt.of_below ba))
    have HX6 := Lib.hid (blk_of w5 25 #[.int .i64 s, .slice Ax z.length cx, .int .i64 p])
    clear ba HB5 HT5 Ow5 Ox5
    go_wp2_with fail
    generalize w5.alloc (.cells #[.int .i64 s, .slice Ax z.length cx, .int .i64 p] 25) = w6 at HB6 HT6 HX6 Ow6 Ox6 ⊢
    refine (implWagerGain_any w6 s _ z p (GOwn.rd qC_len Ox6.out)).mono ?_
    rintro e w7 ⟨vg, rfl, og, b7⟩
    rw [ht] at og
    have HNG : Hid (∀ g, (Value.slice Ax z.length cx).ownBlock = some g → ∀ h, vg.ownBlock = some h → g ≠ h) := Lib.hid (fun g hg h hh => by have h1 := (GOwn.ge Ox6.out g hg).2; have h2 := (og.ge h hh).1; omega)
    have HGW : Hid (∀ g, vg.ownBlock = some g → ∀ h, vw.ownBlock = some h → g ≠ h) := Lib.hid (fun g hg h hh => by have h1 := (og.ge g hg).1; have h2 := (Ow6.out.ge h hh).2; omega)
    have HTG : Hid (∀ g, vg.ownBlock = some g → w.heap.size < g) := Lib.hid (fun g hg => by have h1 := (og.ge g hg).1; have h2 := HT6.out.lt; omega)
    have HB7 := Lib.hid (below_step HB6.out b7 HB6.out.size)
    have HT7 := Lib.hid (HT6.out.below b7)
    have HX7 := Lib.hid (HX6.out.below b7)
    have Ow7 := Lib.hid (Ow6.out.keep (SameAt.of_below b7))
    have Ox7 := Lib.hid (Ox6.out.keep (SameAt.of_below b7))
    clear HB6 HT6 HX6 Ow6 Ox6
    have Og7 := Lib.hid og
    clear b7 og
    go_wp2_with fail
    refine (eqIntS_any w7 vg vw t t (Og7.out.rd) (Ow7.out.rd)).mono ?_
    rintro e w8 ⟨k7, rfl, hdr⟩
    have b8 : Below w7.heap.size w7 w8 := by rw [hdr]; exact below_drewN (Below.refl _ _) _
    clear hdr
    rw [show decide (t = t) = true from by simp]
    have HB8 := Lib.hid (below_step HB7.out b8 HB7.out.size)
    have HT8 := Lib.hid (HT7.out.below b8)
    have HX8 := Lib.hid (HX7.out.below b8)
    have Ow8 := Lib.hid (Ow7.out.keep (SameAt.of_below b8))
    have Ox8 := Lib.hid (Ox7.out.keep (SameAt.of_below b8))
    have Og8 := Lib.hid (Og7.out.keep (SameAt.of_below b8))
    clear HB7 HT7 HX7 Ow7 Ox7 Og7
    clear b8
    go_wp2_with fail
    have k0 : Below w8.heap.size w8 w8.drew := (Below.refl _ _).drew
    refine wp_region_held_drew (S := fun w' => Below w8.heap.size w8 w') (by kernel_rfl) k0 (fun hHeld => ?_)
    refine take_in (i := 0) (v := ?_) rfl (by kernel_rfl) (fun _ _ _ h => h) rfl ?_ hHeld ?_
    rotate_left
    · intro w' hSw
      obtain ⟨d0, d1, d2⟩ := xcells (HX8.out.below hSw)
      go_simp; all_goals with_reducible rfl
    try simp only [Act.put, List.setIfInBounds_toArray, List.set_cons_zero, List.set_cons_succ]
    refine take_in (i := 1) (v := ?_) rfl (by kernel_rfl) (fun _ _ _ h => h) rfl ?_ hHeld ?_
    rotate_left
    · intro w' hSw
      obtain ⟨d0, d1, d2⟩ := xcells (HT8.out.below hSw)
      go_simp; all_goals with_reducible rfl
    try simp only [Act.put, List.setIfInBounds_toArray, List.set_cons_zero, List.set_cons_succ]
    refine ready_one (i := 2) rfl (by kernel_rfl) (fun K hK => ?_)
    go_simp
    go_at_call 19
    refine (toWager_any _ s _ z p (HV.out _ (below_step HB8.out k0 HB8.out.size)) hn).mono ?_
    rintro e w9 ⟨Ae, ce, rfl, oe, be⟩
    have k1 := below_step k0 be k0.size
    refine hK.out _ w9 k1 (fun hHeld => ?_)
    clear hK K be
    try simp only [Act.put, List.setIfInBounds_toArray, List.set_cons_zero, List.set_cons_succ]
    refine ready_one (i := 3) rfl (by kernel_rfl) (fun K hK => ?_)
    go_simp
    go_at_call 20
    refine (eqWager_same w9 s p _ _ z (GOwn.rd qC_len (Ox8.out.keep (SameAt.of_below k1))) (GOwn.rd qC_len oe)).mono ?_
    rintro e w10 ⟨rfl, be2⟩
    have k2 := below_step k1 be2 k1.size
    refine hK.out _ w10 k2 (fun hHeld => ?_)
    clear hK K be2 oe
    try simp only [Act.put, List.setIfInBounds_toArray, List.set_cons_zero, List.set_cons_succ]
    refine take_in (i := 4) (v := ?_) rfl (by kernel_rfl) (fun _ _ _ h => h) rfl ?_ hHeld ?_
    rotate_left
    · intro w hSw; go_simp; all_goals with_reducible rfl
    try simp only [Act.put, List.setIfInBounds_toArray, List.set_cons_zero, List.set_cons_succ]
    refine wpAnyH_done (by kernel_rfl) ?_ _
    clear k0 k1
    have HB10 := Lib.hid (below_step HB8.out k2 HB8.out.size)
    have HT10 := Lib.hid (HT8.out.below k2)
    have HX10 := Lib.hid (HX8.out.below k2)
    have Ow10 := Lib.hid (Ow8.out.keep (SameAt.of_below k2))
    have Ox10 := Lib.hid (Ox8.out.keep (SameAt.of_below k2))
    have Og10 := Lib.hid (Og8.out.keep (SameAt.of_below k2))
    clear k2 HB8 HT8 HX8 Ow8 Ox8 Og8
    have c0 : w10.cell? ⟨w5.heap.size, 0, none⟩ = some (.int .i64 s) := HX10.out.cell 0
    have c1 : w10.cell? ⟨w5.heap.size, 1, none⟩ = some (.slice Ax z.length cx) := HX10.out.cell 1
    have c2 : w10.cell? ⟨w5.heap.size, 2, none⟩ = some (.int .i64 p) := HX10.out.cell 2
    go_wp2_with fail
    clear c0 c1 c2
    clear HX10
    refine (markWager_any w10 _ 1 s p _ z Ox10.out hn (by omega) (by omega)).mono ?_
    rintro e w11 ⟨rfl, gm, ym, om⟩
    have HB11 := Lib.hid (HB10.out.grown gm HB10.out.size (fun g hg => Nat.le_of_lt (HTX.out g hg)))
    have HT11 := Lib.hid (HT10.out.grown9 gm (fun e => absurd (HTX.out _ e) (Nat.lt_irrefl _)))
    have Ow11 := Lib.hid (Ow10.out.keep (SameAt.of_grown gm (far_of (HNW.out))))
    have Og11 := Lib.hid (Og10.out.keep (SameAt.of_grown gm (far_of (HNG.out))))
    clear HB10 HT10 Ow10 Ox10 Og10
    clear gm ym om HNW HNG HTX
    have hk0 : ¬ (1 + 2 * (z.length : Int) < 0) := by omega
    go_wp2_with fail
    clear hk0
    refine (eqIntS_any w11 vg vw t t (Og11.out.rd) (Ow11.out.rd)).mono ?_
    rintro e w12 ⟨k11, rfl, hdr⟩
    have b12 : Below w11.heap.size w11 w12 := by rw [hdr]; exact below_drewN (Below.refl _ _) _
    clear hdr
    rw [show decide (t = t) = true from by simp]
    have HB12 := Lib.hid (below_step HB11.out b12 HB11.out.size)
    have HT12 := Lib.hid (HT11.out.below b12)
    have Ow12 := Lib.hid (Ow11.out.keep (SameAt.of_below b12))
    have Og12 := Lib.hid (Og11.out.keep (SameAt.of_below b12))
    clear HB11 HT11 Ow11 Og11
    clear b12
    go_wp2_with fail
    refine (markIntS_any w12 _ 1 vg t Og12.out (by omega) (by omega) (by omega)).mono ?_
    rintro e w13 ⟨rfl, om, gm, ym⟩
    clear Og12
    have HB13 := Lib.hid (HB12.out.grown gm HB12.out.size (fun g hg => Nat.le_of_lt (HTG.out g hg)))
    have HT13 := Lib.hid (HT12.out.grown9 gm (fun e => absurd (HTG.out _ e) (Nat.lt_irrefl _)))
    have Ow13 := Lib.hid (Ow12.out.keep (SameAt.of_grown gm (far_of (HGW.out))))
    clear HB12 HT12 Ow12
    have Og13 : Hid (IOwn w13 _ vg (upFrom 1 t.length)) := Lib.hid om
    clear om gm ym HGW HTG
    go_wp2_with fail
    refine (heldIntS_any w13 1 vg t.length (Og13.out.rd) (by omega) (by omega) (by omega)).mono ?_
    rintro e w' ⟨rfl, rfl⟩
    have c0 : w13.cell? ⟨w.heap.size, 0, none⟩ = some (.int .i64 s) := HT13.out.cell 0
    have c1 : w13.cell? ⟨w.heap.size, 1, none⟩ = some (.slice A z.length c) := HT13.out.cell 1
    have c2 : w13.cell? ⟨w.heap.size, 2, none⟩ = some (.int .i64 p) := HT13.out.cell 2
    go_wp2_with fail
    clear c0 c1 c2
    refine (toWager_any w13 s _ z p (HV.out _ HB13.out) hn).mono ?_
    rintro e w14 ⟨Ay, cy, rfl, oy, b14⟩
    have HB14 := Lib.hid (below_step HB13.out b14 HB13.out.size)
    have HT14 := Lib.hid (HT13.out.below b14)
    have Ow14 := Lib.hid (Ow13.out.keep (SameAt.of_below b14))
    have Og14 := Lib.hid (Og13.out.keep (SameAt.of_below b14))
    clear HB13 HT13 Ow13 Og13
    have Oy14 := Lib.hid oy
    clear oy b14
    go_wp2_with fail
    refine (implWagerGain_any w14 s _ z p (GOwn.rd qC_len Oy14.out)).mono ?_
    rintro e w15 ⟨vh, rfl, oh, b15⟩
    rw [ht] at oh
    have HB15 := Lib.hid (below_step HB14.out b15 HB14.out.size)
    have HT15 := Lib.hid (HT14.out.below b15)
    have Ow15 := Lib.hid (Ow14.out.keep (SameAt.of_below b15))
    have Og15 := Lib.hid (Og14.out.keep (SameAt.of_below b15))
    have Oy15 := Lib.hid (Oy14.out.keep (SameAt.of_below b15))
    clear HB14 HT14 Ow14 Og14 Oy14
    have Oh15 := Lib.hid oh
    clear b15 oh
    clear Oy15
    go_wp2_with fail
    refine (eqIntS_any w15 vh vw t t (Oh15.out.rd) (Ow15.out.rd)).mono ?_
    rintro e w16 ⟨k15, rfl, hdr⟩
    have b16 : Below w15.heap.size w15 w16 := by rw [hdr]; exact below_drewN (Below.refl _ _) _
    clear hdr
    rw [show decide (t = t) = true from by simp]
    have HB16 := Lib.hid (below_step HB15.out b16 HB15.out.size)
    have HT16 := Lib.hid (HT15.out.below b16)
    have Ow16 := Lib.hid (Ow15.out.keep (SameAt.of_below b16))
    have Og16 := Lib.hid (Og15.out.keep (SameAt.of_below b16))
    have Oh16 := Lib.hid (Oh15.out.keep (SameAt.of_below b16))
    clear HB15 HT15 Ow15 Og15 Oh15
    clear b16
    clear Oh16
    clear Ow16
    go_wp2_with fail
    refine (heldIntS_any w16 1 vg t.length (Og16.out.rd) (by omega) (by omega) (by omega)).mono ?_
    rintro e w' ⟨rfl, rfl⟩
    go_wp2_with fail
    go_ret
    exact ⟨rfl, HB16.out⟩

theorem rwL_len (S : ByteArray) : (rwL S).length ≤ 40 := by
  cases h : rwB S with
  | true => obtain ⟨s, T, p, hT, -, e, -⟩ := rw_tree h; rw [e]; exact hT.2.2.2
  | false =>
    have hx : ¬ ∃ s T p, WReadsB (bs S) s T p := by simpa only [rwB, decide_eq_false_iff_not] using h
    rw [show rwL S = [] from by unfold rwL; exact dif_neg hx]; simp

end Go.Proofs.Ytfdlfgokoponmaa
