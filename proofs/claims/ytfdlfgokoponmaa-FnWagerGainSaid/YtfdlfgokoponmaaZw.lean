/- The walk of the law of WagerGain. Conditions: stated. (gen_zw.py) -/
import Derived.Test.YtfdlfgokoponmaaZv
namespace Go.Proofs.Ytfdlfgokoponmaa
open Go.RowKit
set_option linter.unusedVariables false
set_option linter.unusedSimpArgs false

section
variable {P : Program} {md : Region.Mode} {ops : Array Oper} {Q : Exit → Act → World → Prop} {S : World → Prop}

/-- three may come up -/
theorem ready_three {i j l : Nat} {oi oj ol : Oper} {fuel : Nat} {listed : Array Bool} {a : Act} {w : World} (hi : ops.toList[i]? = some oi) (hj : ops.toList[j]? = some oj) (hl : ops.toList[l]? = some ol) (hr : Region.ready md ops listed = [i, j, l])
    (h : ∀ K' : Act → World → Prop, Shut (∀ a w, S w → (S w → wpAnyH P md ops Q S fuel (listed.setIfInBounds i true) a w) → K' a w) → if Region.wanted oi (yielded ops a.tmps) = true then Oper.wp P oi a w K' Q else K' (a.put oi.dst undef) w)
    (k : ∀ K' : Act → World → Prop, Shut (∀ a w, S w → (S w → wpAnyH P md ops Q S fuel (listed.setIfInBounds j true) a w) → K' a w) → if Region.wanted oj (yielded ops a.tmps) = true then Oper.wp P oj a w K' Q else K' (a.put oj.dst undef) w)
    (m : ∀ K' : Act → World → Prop, Shut (∀ a w, S w → (S w → wpAnyH P md ops Q S fuel (listed.setIfInBounds l true) a w) → K' a w) → if Region.wanted ol (yielded ops a.tmps) = true then Oper.wp P ol a w K' Q else K' (a.put ol.dst undef) w) :
    wpAnyH P md ops Q S (fuel + 1) listed a w :=
  wpAnyH_ready hr (by simp) (AllReadyH.cons (by rwa [Array.getElem?_toList] at hi) h (AllReadyH.cons (by rwa [Array.getElem?_toList] at hj) k (AllReadyH.cons (by rwa [Array.getElem?_toList] at hl) m AllReadyH.nil)))

end

theorem mown_ne {w : World} {B b : Nat} {v : Value} {ms : List Mk} {cs : Array Value} (o : MOwn w B v ms) (h : Blk w b 25 cs) : v.ownBlock ≠ some b := by
  rcases o.2 with ⟨rfl, -⟩ | ⟨g, cap, cur, rfl, hb, hg, -⟩
  · simp [Value.ownBlock]
  · intro e
    have e := Option.some.inj e
    dsimp only at e
    subst e
    unfold Blk at h
    rw [h] at hg
    injection hg with hg
    injection hg with h2 h3
    exact absurd h3 (by decide)

theorem Blk.app {w w' : World} {B b : Nat} {v : Value} {ms : List Mk} {cs : Array Value} (h : Blk w b 25 cs) (o : MOwn w B v ms) (hg : w.grownBy w' v.ownBlock) : Blk w' b 25 cs :=
  (hg.block b h.lt (fun e => mown_ne o h e.symm)).trans h

theorem gain_not {s : Int} {t : List Mk} {p ns np : Int} (hn : -s = ns) (hp : 6 - p = np) (h : wgB s t p = true) (k : wgB ns (t ++ [(1, 0)]) np = true) : wgR ns (t ++ [(1, 0)]) np = wgR s t p := by
  subst hn
  subst hp
  obtain ⟨h1, h2, h3⟩ := (wgB_iff _ _ _).1 h
  obtain ⟨k1, k2, k3⟩ := (wgB_iff _ _ _).1 k
  obtain ⟨n, hn, he, -, hno⟩ := ev_yes h2
  have he2 := hno k2
  have hE : evB 4 (n : Int) = true := by rw [evB_iff]; simp [allI]; omega
  have hq : qokB 4 ((n : Int), p) = true := by
    show (evB 4 (n : Int) && inB p 0 6) = true
    rw [hE, Bool.true_and, inB_iff]
    exact h3
  have hg := gain_other hq s
  rw [wgR_yes k, wgR_yes h, he, he2, ← hg]
  have hno2 : notI 4 (n : Int) = ((15 - n : Nat) : Int) := by
    rw [notI_eq hE, show allI 4 = 15 from by decide]
    omega
  show gainL 4 (((15 - n : Nat) : Int), 6 - p) (-s) = gainL 4 (notI 4 (n : Int), 6 - p) (-s)
  rw [hno2]

set_option maxRecDepth 100000 in
set_option maxHeartbeats 16000000 in
theorem FnWagerGain_walk (a0 : Option Addr) (len0 cap0 : Nat) (z0 : List Int) (w : World) (w0 : IsRowC .u8 w a0 len0 cap0 z0) :
    Calls Try.prog 4 #[.slice a0 len0 cap0] w fun e w' => e = .returned (.bool true) ∧ Below w.heap.size w w' := by
  by_cases hlen : 1048576 < len0
  · clear w0
    go_enter Try.func4, Try.ntmps4
    go_wp2
    go_ret
    exact ⟨rfl, Below.refl _ _⟩
  · have hlen' : decide (1048576 < len0) = false := by simpa using hlen
    go_enter Try.func4, Try.ntmps4
    go_wp2_with fail
    refine (drawWagerGain_any _ _ _ _ _ w0).mono ?_
    rintro e w1 ⟨s, g, c, t, p, rfl, o1, hlt, hs, hp, b1⟩
    clear hlen hlen' w0
    obtain ⟨w2, hw2⟩ : ∃ w2, w1.alloc (.cells #[.int .i64 s, .slice (some ⟨g, 0, none⟩) t.length c, .int .i64 p] 25) = w2 := ⟨_, rfl⟩
    have K2 : Hid (WK w w1.heap.size s (.slice (some ⟨g, 0, none⟩) t.length c) p t w2) := Lib.hid (by rw [← hw2]; exact ⟨b1.alloc b1.size _, heap_alloc_new w1 _, o1.keep (SameAt.of_below ((Below.refl _ w1).alloc (Nat.le_refl _) _))⟩)
    have HW2 := Lib.hid hw2
    clear o1 b1 hw2
    obtain ⟨k, hk⟩ : ∃ k, wgB s t p = k := ⟨_, rfl⟩
    have HK := Lib.hid hk
    clear hk
    obtain ⟨X, hX⟩ : ∃ X, wgR s t p = X := ⟨_, rfl⟩
    have HX := Lib.hid hX
    clear hX
    have HXL : Hid (X.length = if k = true then 4 else 0) := Lib.hid (by
      rw [← HX.out]
      cases k
      · rw [wgR_no HK.out]; rfl
      · rw [wgR_len HK.out]; rfl)
    obtain ⟨L, hL⟩ : ∃ L : Nat, (if k = true then 4 else 0) = L := ⟨_, rfl⟩
    rw [hL] at HXL
    go_upto_region 4 with fail
    rw [HW2.out]
    obtain ⟨⟨m0, m1, m2⟩, -⟩ := three_cells K2.out.2.1
    go_wp2_with fail
    refine (implWagerGain_any w2 s _ t p (K2.out.2.2.rd qC_len)).mono ?_
    rintro e w3 ⟨v3, rfl, o3, b3⟩
    rw [HX.out] at o3
    obtain ⟨A3, c3, rfl⟩ := irow_form (k := L) o3.rd HXL.out
    have K3 : Hid (WK w w1.heap.size s (.slice (some ⟨g, 0, none⟩) t.length c) p t w3 ∧ IOwn w3 w2.heap.size (.slice A3 L c3) X) := Lib.hid ⟨K2.out.below b3, o3⟩
    clear b3 o3 m0 m1 m2 K2
    obtain ⟨⟨m0, m1, m2⟩, -⟩ := three_cells K3.out.1.2.1
    go_wp2_with fail
    refine (specWagerGain_any w3 s _ t p (K3.out.1.2.2.rd qC_len)).mono ?_
    rintro e w4 ⟨v4, rfl, o4, b4⟩
    rw [HX.out] at o4
    have K4 : Hid (WK w w1.heap.size s (.slice (some ⟨g, 0, none⟩) t.length c) p t w4 ∧ IOwn w4 w2.heap.size (.slice A3 L c3) X ∧ IOwn w4 w3.heap.size v4 X) := Lib.hid ⟨K3.out.1.below b4, K3.out.2.keep (SameAt.of_below b4), o4⟩
    clear b4 o4 m0 m1 m2 K3
    go_wp2_with fail
    refine (sameInts_any w4 _ v4 X X K4.out.2.1.rd K4.out.2.2.rd).mono ?_
    rintro e w5 ⟨n5, rfl, hdr⟩
    have b5 : Below w4.heap.size w4 w5 := by rw [hdr]; exact below_drewN (Below.refl _ _) _
    have K5 : Hid (WK w w1.heap.size s (.slice (some ⟨g, 0, none⟩) t.length c) p t w5 ∧ IOwn w5 w2.heap.size (.slice A3 L c3) X) := Lib.hid ⟨K4.out.1.below b5, K4.out.2.1.keep (SameAt.of_below b5)⟩
    rw [show decide (X = X) = true from by simp]
    clear hdr b5 K4
    cases k
    · obtain rfl : L = 0 := by rw [← hL]; rfl
      clear hL
      obtain ⟨⟨m0, m1, m2⟩, -⟩ := three_cells K5.out.1.2.1
      go_wp2_with fail
      refine (implWagerOk_any w5 s _ t p (K5.out.1.2.2.rd qC_len)).mono ?_
      rintro e w6 ⟨rfl, b6⟩
      rw [HK.out]
      have K6 := Lib.hid (K5.out.1.below b6)
      clear b6 m0 m1 m2
      go_wp2_with fail
      refine (alive_any _).mono ?_
      rintro e w' ⟨rfl, rfl⟩
      go_wp2_with fail
      go_ret
      exact ⟨rfl, K6.out.1⟩
    · obtain rfl : L = 4 := by rw [← hL]; rfl
      clear hL
      obtain ⟨ns, hns⟩ : ∃ ns, -s = ns := ⟨_, rfl⟩
      obtain ⟨np, hnp⟩ : ∃ np, 6 - p = np := ⟨_, rfl⟩
      have hw1 : IntKind.i64.wrap (-s) = ns := by rw [IntWalk.i64_in _ (by omega)]; exact hns
      have hw2 : IntKind.i64.wrap (6 - p) = np := by rw [IntWalk.i64_in _ (by omega)]; exact hnp
      have HNS := Lib.hid (And.intro hns hnp)
      clear hns hnp
      have HC : Hid (∀ wr, Below w5.heap.size w5 wr → Blk wr w1.heap.size 25 #[.int .i64 s, .slice (some ⟨g, 0, none⟩) t.length c, .int .i64 p]) := Lib.hid (fun wr hb => (hb.block _ K5.out.1.2.1.lt).trans K5.out.1.2.1)
      have HV : Hid (∀ wr, Below w5.heap.size w5 wr → QRd wr (.slice (some ⟨g, 0, none⟩) t.length c) t) := Lib.hid (fun wr hb => (K5.out.1.2.2.keep (SameAt.of_below hb)).rd qC_len)
      go_upto_region 9 with fail
      go_cut [5] (fun x wx => ∃ (b4 : Nat) (v4 : Value), x = .pointer (some ⟨b4, 0, none⟩) ∧ Hid (Blk wx b4 25 #[.int .i64 ns, v4, .int .i64 np] ∧ MOwn wx w5.heap.size v4 (t ++ [(1, 0)]) ∧ Below w5.heap.size w5 wx))
      case first =>
        have k0 : Below w5.heap.size w5 w5.drew := (Below.refl _ _).drew
        refine wp_region_held_drew (S := fun w' => Below w5.heap.size w5 w') (by kernel_rfl) k0 (fun hHeld => ?_)
        refine take_in (i := 0) (v := ?_) rfl (by kernel_rfl) (fun _ _ _ h => h) rfl ?_ hHeld ?_
        rotate_left
        · intro w' hSw; go_simp; all_goals with_reducible rfl
        try simp only [Act.put, List.setIfInBounds_toArray, List.set_cons_zero, List.set_cons_succ]
        refine take_in (i := 1) (v := ?_) rfl (by kernel_rfl) (fun _ _ _ h => h) rfl ?_ hHeld ?_
        rotate_left
        · intro w' hSw; obtain ⟨⟨m0, m1, m2⟩, -⟩ := three_cells (HC.out w' hSw); go_simp; all_goals with_reducible rfl
        try simp only [Act.put, List.setIfInBounds_toArray, List.set_cons_zero, List.set_cons_succ]
        refine take_in (i := 2) (v := ?_) rfl (by kernel_rfl) (fun _ _ _ h => h) rfl ?_ hHeld ?_
        rotate_left
        · intro w' hSw; go_simp; all_goals with_reducible rfl
        try simp only [Act.put, List.setIfInBounds_toArray, List.set_cons_zero, List.set_cons_succ]
        refine take_in (i := 4) (v := ?_) rfl (by kernel_rfl) (fun _ _ _ h => h) rfl ?_ hHeld ?_
        rotate_left
        · intro w' hSw; go_simp; all_goals with_reducible rfl
        try simp only [Act.put, List.setIfInBounds_toArray, List.set_cons_zero, List.set_cons_succ]
        refine take_in (i := 5) (v := ?_) rfl (by kernel_rfl) (fun _ _ _ h => h) rfl ?_ hHeld ?_
        rotate_left
        · intro w' hSw; obtain ⟨⟨m0, m1, m2⟩, -⟩ := three_cells (HC.out w' hSw); go_simp; all_goals with_reducible rfl
        try simp only [Act.put, List.setIfInBounds_toArray, List.set_cons_zero, List.set_cons_succ]
        refine take_in (i := 7) (v := ?_) rfl (by kernel_rfl) (fun _ _ _ h => h) rfl ?_ hHeld ?_
        rotate_left
        · intro w' hSw; go_simp; all_goals with_reducible rfl
        try simp only [Act.put, List.setIfInBounds_toArray, List.set_cons_zero, List.set_cons_succ]
        refine take_in (i := 10) (v := ?_) rfl (by kernel_rfl) (fun _ _ _ h => h) rfl ?_ hHeld ?_
        rotate_left
        · intro w' hSw; go_simp; all_goals with_reducible rfl
        try simp only [Act.put, List.setIfInBounds_toArray, List.set_cons_zero, List.set_cons_succ]
        refine take_in (i := 11) (v := ?_) rfl (by kernel_rfl) (fun _ _ _ h => h) rfl ?_ hHeld ?_
        rotate_left
        · intro w' hSw; obtain ⟨⟨m0, m1, m2⟩, -⟩ := three_cells (HC.out w' hSw); go_simp; all_goals with_reducible rfl
        try simp only [Act.put, List.setIfInBounds_toArray, List.set_cons_zero, List.set_cons_succ]
        refine take_in (i := 12) (v := ?_) rfl (by kernel_rfl) (fun _ _ _ h => h) rfl ?_ hHeld ?_
        rotate_left
        · intro w' hSw; go_simp; all_goals with_reducible rfl
        try simp only [Act.put, List.setIfInBounds_toArray, List.set_cons_zero, List.set_cons_succ]
        refine ready_three (i := 3) (j := 8) (l := 14) rfl rfl rfl (by kernel_rfl) (fun K hK => ?_) (fun K hK => ?_) (fun K hK => ?_)
        · go_simp
          have b1 := k0.alloc k0.size (.cells #[] 34)
          have a1 : MOwn (w5.drew.alloc (.cells #[] 34)) w5.heap.size (.slice (some ⟨w5.heap.size, 0, none⟩) 0 0) [] := by have h := mlit0 w5.drew w5.heap.size k0.size; exact h
          refine hK.out _ (w5.drew.alloc (.cells #[] 34)) (b1) (fun hHeld => ?_)
          clear hK K
          try simp only [Act.put, List.setIfInBounds_toArray, List.set_cons_zero, List.set_cons_succ]
          refine ready_three (i := 6) (j := 8) (l := 14) rfl rfl rfl (by kernel_rfl) (fun K hK => ?_) (fun K hK => ?_) (fun K hK => ?_)
          · obtain ⟨v2, x2, r2, o2, q2, y2⟩ := run_app_row (w5.drew.alloc (.cells #[] 34)) w5.heap.size (.slice (some ⟨w5.heap.size, 0, none⟩) 0 0) [] g 0 t.length c t a1 (HV.out _ b1) (by simp) (by omega) b1.size
            refine step_append (s := .tmp 30) (x := .tmp 32) rfl rfl r2 ?_
            have b2 : Below w5.heap.size w5 x2 := b1.grown q2 b1.size (fun g hg => (GOwn.ge a1 g hg).1)
            have a2 : MOwn x2 w5.heap.size v2 t := by simpa using o2
            refine hK.out _ x2 (b2) (fun hHeld => ?_)
            clear hK K
            try simp only [Act.put, List.setIfInBounds_toArray, List.set_cons_zero, List.set_cons_succ]
            refine ready_two (i := 8) (j := 14) rfl rfl (by kernel_rfl) (fun K hK => ?_) (fun K hK => ?_)
            · go_simp
              have b3 := b2.alloc b2.size (.cells #[.int .i64 1, .int .i64 0] 34)
              have a3 := MOwn.allocd a2 (.cells #[.int .i64 1, .int .i64 0] 34)
              have n3 : QRd (x2.alloc (.cells #[.int .i64 1, .int .i64 0] 34)) (.slice (some ⟨x2.heap.size, 0, none⟩) 1 1) [(1, 0)] := by have h := GOwn.rd qC_len (mlit1 x2 w5.heap.size b2.size 1 0); exact h
              have e3 : v2.ownBlock ≠ some x2.heap.size := fun e => by have h := (GOwn.ge a2 _ e).2; first | omega | (simp at h; omega) | (simp at h)
              refine hK.out _ (x2.alloc (.cells #[.int .i64 1, .int .i64 0] 34)) (b3) (fun hHeld => ?_)
              clear hK K
              try simp only [Act.put, List.setIfInBounds_toArray, List.set_cons_zero, List.set_cons_succ]
              refine ready_two (i := 9) (j := 14) rfl rfl (by kernel_rfl) (fun K hK => ?_) (fun K hK => ?_)
              · obtain ⟨v4, x4, r4, o4, q4, y4⟩ := run_app_row (x2.alloc (.cells #[.int .i64 1, .int .i64 0] 34)) w5.heap.size v2 t x2.heap.size 0 1 1 [(1, 0)] a3 n3 (by omega) (by simp) b3.size
                refine step_append (s := .tmp 33) (x := .tmp 35) rfl rfl r4 ?_
                have b4 : Below w5.heap.size w5 x4 := b3.grown q4 b3.size (fun g hg => (GOwn.ge a3 g hg).1)
                have a4 : MOwn x4 w5.heap.size v4 (t ++ [(1, 0)]) := o4
                obtain ⟨A4, n4, c4, rfl⟩ := mform a4
                refine hK.out _ x4 (b4) (fun hHeld => ?_)
                clear hK K
                try simp only [Act.put, List.setIfInBounds_toArray, List.set_cons_zero, List.set_cons_succ]
                refine take_in (i := 13) (v := ?_) rfl (by kernel_rfl) (fun _ _ _ h => h) rfl ?_ hHeld ?_
                rotate_left
                · intro w' hSw; go_simp; all_goals with_reducible rfl
                try simp only [Act.put, List.setIfInBounds_toArray, List.set_cons_zero, List.set_cons_succ]
                refine ready_one (i := 14) rfl (by kernel_rfl) (fun K hK => ?_)
                go_simp
                have b5 := b4.alloc b4.size (.cells #[.int .i64 0, .slice none 0 0, .int .i64 0] 25)
                have a5 := MOwn.allocd a4 (.cells #[.int .i64 0, .slice none 0 0, .int .i64 0] 25)
                have z5 : Blk (x4.alloc (.cells #[.int .i64 0, .slice none 0 0, .int .i64 0] 25)) x4.heap.size 25 #[.int .i64 0, .slice none 0 0, .int .i64 0] := by have h : Blk (x4.alloc (.cells #[.int .i64 0, .slice none 0 0, .int .i64 0] 25)) x4.heap.size 25 #[.int .i64 0, .slice none 0 0, .int .i64 0] := heap_alloc_new x4 _; exact h
                have h5 : w5.heap.size ≤ x4.heap.size := by have h := b4.size; first | omega | (simp at h; omega) | (simp at h)
                refine hK.out _ (x4.alloc (.cells #[.int .i64 0, .slice none 0 0, .int .i64 0] 25)) (b5) (fun hHeld => ?_)
                clear hK K
                try simp only [Act.put, List.setIfInBounds_toArray, List.set_cons_zero, List.set_cons_succ]
                refine ready_one (i := 15) rfl (by kernel_rfl) (fun K hK => ?_)
                obtain ⟨⟨z0, z1, z2⟩, f0, f1, f2⟩ := three_cells z5
                go_simp
                have k6 := b4.alloc b4.size (.cells #[.int .i64 ns, (.slice A4 n4 c4), .int .i64 np] 25)
                have z6 : Blk (x4.alloc (.cells #[.int .i64 ns, (.slice A4 n4 c4), .int .i64 np] 25)) x4.heap.size 25 #[.int .i64 ns, (.slice A4 n4 c4), .int .i64 np] := heap_alloc_new x4 _
                have o6 : MOwn (x4.alloc (.cells #[.int .i64 ns, (.slice A4 n4 c4), .int .i64 np] 25)) w5.heap.size (.slice A4 n4 c4) (t ++ [(1, 0)]) := MOwn.allocd a4 _
                refine hK.out _ (x4.alloc (.cells #[.int .i64 ns, (.slice A4 n4 c4), .int .i64 np] 25)) (k6) (fun hHeld => ?_)
                clear hK K
                try simp only [Act.put, List.setIfInBounds_toArray, List.set_cons_zero, List.set_cons_succ]
                refine wpAnyH_done (by kernel_rfl) ?_ _
                go_wp2
                go_meet
                exact ⟨x4.heap.size, _, rfl, Lib.hid ⟨z6, o6, k6⟩⟩
              · go_simp
                have b7 := b3.alloc b3.size (.cells #[.int .i64 0, .slice none 0 0, .int .i64 0] 25)
                have a7 := MOwn.allocd a3 (.cells #[.int .i64 0, .slice none 0 0, .int .i64 0] 25)
                have n7 := GRd.keep n3 (SameAt.of_below ((Below.refl _ (x2.alloc (.cells #[.int .i64 1, .int .i64 0] 34))).alloc (Nat.le_refl _) (.cells #[.int .i64 0, .slice none 0 0, .int .i64 0] 25)))
                have z7 : Blk ((x2.alloc (.cells #[.int .i64 1, .int .i64 0] 34)).alloc (.cells #[.int .i64 0, .slice none 0 0, .int .i64 0] 25)) (x2.heap.size + 1) 25 #[.int .i64 0, .slice none 0 0, .int .i64 0] := by have h : Blk ((x2.alloc (.cells #[.int .i64 1, .int .i64 0] 34)).alloc (.cells #[.int .i64 0, .slice none 0 0, .int .i64 0] 25)) (x2.alloc (.cells #[.int .i64 1, .int .i64 0] 34)).heap.size 25 #[.int .i64 0, .slice none 0 0, .int .i64 0] := heap_alloc_new (x2.alloc (.cells #[.int .i64 1, .int .i64 0] 34)) _; rwa [show (x2.alloc (.cells #[.int .i64 1, .int .i64 0] 34)).heap.size = x2.heap.size + 1 by simp] at h
                have h7 : w5.heap.size ≤ x2.heap.size + 1 := by have h := b3.size; first | omega | (simp at h; omega) | (simp at h)
                refine hK.out _ ((x2.alloc (.cells #[.int .i64 1, .int .i64 0] 34)).alloc (.cells #[.int .i64 0, .slice none 0 0, .int .i64 0] 25)) (b7) (fun hHeld => ?_)
                clear hK K
                try simp only [Act.put, List.setIfInBounds_toArray, List.set_cons_zero, List.set_cons_succ]
                refine ready_one (i := 9) rfl (by kernel_rfl) (fun K hK => ?_)
                obtain ⟨v8, x8, r8, o8, q8, y8⟩ := run_app_row ((x2.alloc (.cells #[.int .i64 1, .int .i64 0] 34)).alloc (.cells #[.int .i64 0, .slice none 0 0, .int .i64 0] 25)) w5.heap.size v2 t x2.heap.size 0 1 1 [(1, 0)] a7 n7 (by omega) (by simp) b7.size
                refine step_append (s := .tmp 33) (x := .tmp 35) rfl rfl r8 ?_
                have b8 : Below w5.heap.size w5 x8 := b7.grown q8 b7.size (fun g hg => (GOwn.ge a7 g hg).1)
                have z8 : Blk x8 (x2.heap.size + 1) 25 #[.int .i64 0, .slice none 0 0, .int .i64 0] := z7.app a7 q8
                have a8 : MOwn x8 w5.heap.size v8 (t ++ [(1, 0)]) := o8
                obtain ⟨A8, n8, c8, rfl⟩ := mform a8
                refine hK.out _ x8 (b8) (fun hHeld => ?_)
                clear hK K
                try simp only [Act.put, List.setIfInBounds_toArray, List.set_cons_zero, List.set_cons_succ]
                refine take_in (i := 13) (v := ?_) rfl (by kernel_rfl) (fun _ _ _ h => h) rfl ?_ hHeld ?_
                rotate_left
                · intro w' hSw; go_simp; all_goals with_reducible rfl
                try simp only [Act.put, List.setIfInBounds_toArray, List.set_cons_zero, List.set_cons_succ]
                refine ready_one (i := 15) rfl (by kernel_rfl) (fun K hK => ?_)
                obtain ⟨⟨z0, z1, z2⟩, f0, f1, f2⟩ := three_cells z8
                go_simp
                have k9 := (((b8.setCell (p := ⟨x2.heap.size + 1, 0, none⟩) h7 (.int .i64 ns)).setCell (p := ⟨x2.heap.size + 1, 1, none⟩) h7 (.slice A8 n8 c8)).setCell (p := ⟨x2.heap.size + 1, 2, none⟩) h7 (.int .i64 np))
                have zz1 := z8.set_ 0 (.int .i64 ns)
                have zz2 := zz1.set_ 1 (.slice A8 n8 c8)
                have z9 : Blk ((((x8).setCell ⟨x2.heap.size + 1, 0, none⟩ (.int .i64 ns)).setCell ⟨x2.heap.size + 1, 1, none⟩ (.slice A8 n8 c8)).setCell ⟨x2.heap.size + 1, 2, none⟩ (.int .i64 np)) (x2.heap.size + 1) 25 #[.int .i64 ns, (.slice A8 n8 c8), .int .i64 np] := zz2.set_ 2 (.int .i64 np)
                have o9 : MOwn ((((x8).setCell ⟨x2.heap.size + 1, 0, none⟩ (.int .i64 ns)).setCell ⟨x2.heap.size + 1, 1, none⟩ (.slice A8 n8 c8)).setCell ⟨x2.heap.size + 1, 2, none⟩ (.int .i64 np)) w5.heap.size (.slice A8 n8 c8) (t ++ [(1, 0)]) := ((MOwn.stay a8 (Stay.set_w z8 _)).stay (Stay.set_w zz1 _)).stay (Stay.set_w zz2 _)
                refine hK.out _ ((((x8).setCell ⟨x2.heap.size + 1, 0, none⟩ (.int .i64 ns)).setCell ⟨x2.heap.size + 1, 1, none⟩ (.slice A8 n8 c8)).setCell ⟨x2.heap.size + 1, 2, none⟩ (.int .i64 np)) (k9) (fun hHeld => ?_)
                clear hK K
                try simp only [Act.put, List.setIfInBounds_toArray, List.set_cons_zero, List.set_cons_succ]
                refine wpAnyH_done (by kernel_rfl) ?_ _
                go_wp2
                go_meet
                exact ⟨x2.heap.size + 1, _, rfl, Lib.hid ⟨z9, o9, k9⟩⟩
            · go_simp
              have b10 := b2.alloc b2.size (.cells #[.int .i64 0, .slice none 0 0, .int .i64 0] 25)
              have a10 := MOwn.allocd a2 (.cells #[.int .i64 0, .slice none 0 0, .int .i64 0] 25)
              have z10 : Blk (x2.alloc (.cells #[.int .i64 0, .slice none 0 0, .int .i64 0] 25)) x2.heap.size 25 #[.int .i64 0, .slice none 0 0, .int .i64 0] := by have h : Blk (x2.alloc (.cells #[.int .i64 0, .slice none 0 0, .int .i64 0] 25)) x2.heap.size 25 #[.int .i64 0, .slice none 0 0, .int .i64 0] := heap_alloc_new x2 _; exact h
              have h10 : w5.heap.size ≤ x2.heap.size := by have h := b2.size; first | omega | (simp at h; omega) | (simp at h)
              refine hK.out _ (x2.alloc (.cells #[.int .i64 0, .slice none 0 0, .int .i64 0] 25)) (b10) (fun hHeld => ?_)
              clear hK K
              try simp only [Act.put, List.setIfInBounds_toArray, List.set_cons_zero, List.set_cons_succ]
              refine ready_one (i := 8) rfl (by kernel_rfl) (fun K hK => ?_)
              go_simp
              have b11 := b10.alloc b10.size (.cells #[.int .i64 1, .int .i64 0] 34)
              have a11 := MOwn.allocd a10 (.cells #[.int .i64 1, .int .i64 0] 34)
              have z11 : Blk ((x2.alloc (.cells #[.int .i64 0, .slice none 0 0, .int .i64 0] 25)).alloc (.cells #[.int .i64 1, .int .i64 0] 34)) x2.heap.size 25 #[.int .i64 0, .slice none 0 0, .int .i64 0] := (Below.heap_alloc (x2.alloc (.cells #[.int .i64 0, .slice none 0 0, .int .i64 0] 25)) _ _ z10.lt).trans z10
              have n11 : QRd ((x2.alloc (.cells #[.int .i64 0, .slice none 0 0, .int .i64 0] 25)).alloc (.cells #[.int .i64 1, .int .i64 0] 34)) (.slice (some ⟨x2.heap.size + 1, 0, none⟩) 1 1) [(1, 0)] := by have h := GOwn.rd qC_len (mlit1 (x2.alloc (.cells #[.int .i64 0, .slice none 0 0, .int .i64 0] 25)) w5.heap.size b10.size 1 0); rwa [show (x2.alloc (.cells #[.int .i64 0, .slice none 0 0, .int .i64 0] 25)).heap.size = x2.heap.size + 1 by simp] at h
              have e11 : v2.ownBlock ≠ some (x2.heap.size + 1) := fun e => by have h := (GOwn.ge a10 _ e).2; first | omega | (simp at h; omega) | (simp at h)
              refine hK.out _ ((x2.alloc (.cells #[.int .i64 0, .slice none 0 0, .int .i64 0] 25)).alloc (.cells #[.int .i64 1, .int .i64 0] 34)) (b11) (fun hHeld => ?_)
              clear hK K
              try simp only [Act.put, List.setIfInBounds_toArray, List.set_cons_zero, List.set_cons_succ]
              refine ready_one (i := 9) rfl (by kernel_rfl) (fun K hK => ?_)
              obtain ⟨v12, x12, r12, o12, q12, y12⟩ := run_app_row ((x2.alloc (.cells #[.int .i64 0, .slice none 0 0, .int .i64 0] 25)).alloc (.cells #[.int .i64 1, .int .i64 0] 34)) w5.heap.size v2 t (x2.heap.size + 1) 0 1 1 [(1, 0)] a11 n11 (by omega) (by simp) b11.size
              refine step_append (s := .tmp 33) (x := .tmp 35) rfl rfl r12 ?_
              have b12 : Below w5.heap.size w5 x12 := b11.grown q12 b11.size (fun g hg => (GOwn.ge a11 g hg).1)
              have z12 : Blk x12 x2.heap.size 25 #[.int .i64 0, .slice none 0 0, .int .i64 0] := z11.app a11 q12
              have a12 : MOwn x12 w5.heap.size v12 (t ++ [(1, 0)]) := o12
              obtain ⟨A12, n12, c12, rfl⟩ := mform a12
              refine hK.out _ x12 (b12) (fun hHeld => ?_)
              clear hK K
              try simp only [Act.put, List.setIfInBounds_toArray, List.set_cons_zero, List.set_cons_succ]
              refine take_in (i := 13) (v := ?_) rfl (by kernel_rfl) (fun _ _ _ h => h) rfl ?_ hHeld ?_
              rotate_left
              · intro w' hSw; go_simp; all_goals with_reducible rfl
              try simp only [Act.put, List.setIfInBounds_toArray, List.set_cons_zero, List.set_cons_succ]
              refine ready_one (i := 15) rfl (by kernel_rfl) (fun K hK => ?_)
              obtain ⟨⟨z0, z1, z2⟩, f0, f1, f2⟩ := three_cells z12
              go_simp
              have k13 := (((b12.setCell (p := ⟨x2.heap.size, 0, none⟩) h10 (.int .i64 ns)).setCell (p := ⟨x2.heap.size, 1, none⟩) h10 (.slice A12 n12 c12)).setCell (p := ⟨x2.heap.size, 2, none⟩) h10 (.int .i64 np))
              have zz1 := z12.set_ 0 (.int .i64 ns)
              have zz2 := zz1.set_ 1 (.slice A12 n12 c12)
              have z13 : Blk ((((x12).setCell ⟨x2.heap.size, 0, none⟩ (.int .i64 ns)).setCell ⟨x2.heap.size, 1, none⟩ (.slice A12 n12 c12)).setCell ⟨x2.heap.size, 2, none⟩ (.int .i64 np)) x2.heap.size 25 #[.int .i64 ns, (.slice A12 n12 c12), .int .i64 np] := zz2.set_ 2 (.int .i64 np)
              have o13 : MOwn ((((x12).setCell ⟨x2.heap.size, 0, none⟩ (.int .i64 ns)).setCell ⟨x2.heap.size, 1, none⟩ (.slice A12 n12 c12)).setCell ⟨x2.heap.size, 2, none⟩ (.int .i64 np)) w5.heap.size (.slice A12 n12 c12) (t ++ [(1, 0)]) := ((MOwn.stay a12 (Stay.set_w z12 _)).stay (Stay.set_w zz1 _)).stay (Stay.set_w zz2 _)
              refine hK.out _ ((((x12).setCell ⟨x2.heap.size, 0, none⟩ (.int .i64 ns)).setCell ⟨x2.heap.size, 1, none⟩ (.slice A12 n12 c12)).setCell ⟨x2.heap.size, 2, none⟩ (.int .i64 np)) (k13) (fun hHeld => ?_)
              clear hK K
              try simp only [Act.put, List.setIfInBounds_toArray, List.set_cons_zero, List.set_cons_succ]
              refine wpAnyH_done (by kernel_rfl) ?_ _
              go_wp2
              go_meet
              exact ⟨x2.heap.size, _, rfl, Lib.hid ⟨z13, o13, k13⟩⟩
          · go_simp
            have b14 := b1.alloc b1.size (.cells #[.int .i64 1, .int .i64 0] 34)
            have a14 := MOwn.allocd a1 (.cells #[.int .i64 1, .int .i64 0] 34)
            have n14 : QRd ((w5.drew.alloc (.cells #[] 34)).alloc (.cells #[.int .i64 1, .int .i64 0] 34)) (.slice (some ⟨w5.heap.size + 1, 0, none⟩) 1 1) [(1, 0)] := by have h := GOwn.rd qC_len (mlit1 (w5.drew.alloc (.cells #[] 34)) w5.heap.size b1.size 1 0); rwa [show (w5.drew.alloc (.cells #[] 34)).heap.size = w5.heap.size + 1 by simp] at h
            have e14 : (Value.slice (some ⟨w5.heap.size, 0, none⟩) 0 0).ownBlock ≠ some (w5.heap.size + 1) := fun e => by have h := (GOwn.ge a1 _ e).2; first | omega | (simp at h; omega) | (simp at h)
            refine hK.out _ ((w5.drew.alloc (.cells #[] 34)).alloc (.cells #[.int .i64 1, .int .i64 0] 34)) (b14) (fun hHeld => ?_)
            clear hK K
            try simp only [Act.put, List.setIfInBounds_toArray, List.set_cons_zero, List.set_cons_succ]
            refine ready_two (i := 6) (j := 14) rfl rfl (by kernel_rfl) (fun K hK => ?_) (fun K hK => ?_)
            · obtain ⟨v15, x15, r15, o15, q15, y15⟩ := run_app_row ((w5.drew.alloc (.cells #[] 34)).alloc (.cells #[.int .i64 1, .int .i64 0] 34)) w5.heap.size (.slice (some ⟨w5.heap.size, 0, none⟩) 0 0) [] g 0 t.length c t a14 (HV.out _ b14) (by simp) (by omega) b14.size
              refine step_append (s := .tmp 30) (x := .tmp 32) rfl rfl r15 ?_
              have b15 : Below w5.heap.size w5 x15 := b14.grown q15 b14.size (fun g hg => (GOwn.ge a14 g hg).1)
              have a15 : MOwn x15 w5.heap.size v15 t := by simpa using o15
              have n15 := GRd.keep n14 (SameAt.of_grown q15 (.inr (fun e => e14 e.symm)))
              have e15 : v15.ownBlock ≠ some (w5.heap.size + 1) := by
                rcases y15 with y | y
                · rw [y]; exact e14
                · rw [y]; intro e; have h := Option.some.inj e; have h2 := GRd.blk n14; omega
              refine hK.out _ x15 (b15) (fun hHeld => ?_)
              clear hK K
              try simp only [Act.put, List.setIfInBounds_toArray, List.set_cons_zero, List.set_cons_succ]
              refine ready_two (i := 9) (j := 14) rfl rfl (by kernel_rfl) (fun K hK => ?_) (fun K hK => ?_)
              · obtain ⟨v16, x16, r16, o16, q16, y16⟩ := run_app_row x15 w5.heap.size v15 t (w5.heap.size + 1) 0 1 1 [(1, 0)] a15 n15 (by omega) (by simp) b15.size
                refine step_append (s := .tmp 33) (x := .tmp 35) rfl rfl r16 ?_
                have b16 : Below w5.heap.size w5 x16 := b15.grown q16 b15.size (fun g hg => (GOwn.ge a15 g hg).1)
                have a16 : MOwn x16 w5.heap.size v16 (t ++ [(1, 0)]) := o16
                obtain ⟨A16, n16, c16, rfl⟩ := mform a16
                refine hK.out _ x16 (b16) (fun hHeld => ?_)
                clear hK K
                try simp only [Act.put, List.setIfInBounds_toArray, List.set_cons_zero, List.set_cons_succ]
                refine take_in (i := 13) (v := ?_) rfl (by kernel_rfl) (fun _ _ _ h => h) rfl ?_ hHeld ?_
                rotate_left
                · intro w' hSw; go_simp; all_goals with_reducible rfl
                try simp only [Act.put, List.setIfInBounds_toArray, List.set_cons_zero, List.set_cons_succ]
                refine ready_one (i := 14) rfl (by kernel_rfl) (fun K hK => ?_)
                go_simp
                have b17 := b16.alloc b16.size (.cells #[.int .i64 0, .slice none 0 0, .int .i64 0] 25)
                have a17 := MOwn.allocd a16 (.cells #[.int .i64 0, .slice none 0 0, .int .i64 0] 25)
                have z17 : Blk (x16.alloc (.cells #[.int .i64 0, .slice none 0 0, .int .i64 0] 25)) x16.heap.size 25 #[.int .i64 0, .slice none 0 0, .int .i64 0] := by have h : Blk (x16.alloc (.cells #[.int .i64 0, .slice none 0 0, .int .i64 0] 25)) x16.heap.size 25 #[.int .i64 0, .slice none 0 0, .int .i64 0] := heap_alloc_new x16 _; exact h
                have h17 : w5.heap.size ≤ x16.heap.size := by have h := b16.size; first | omega | (simp at h; omega) | (simp at h)
                refine hK.out _ (x16.alloc (.cells #[.int .i64 0, .slice none 0 0, .int .i64 0] 25)) (b17) (fun hHeld => ?_)
                clear hK K
                try simp only [Act.put, List.setIfInBounds_toArray, List.set_cons_zero, List.set_cons_succ]
                refine ready_one (i := 15) rfl (by kernel_rfl) (fun K hK => ?_)
                obtain ⟨⟨z0, z1, z2⟩, f0, f1, f2⟩ := three_cells z17
                go_simp
                have k18 := b16.alloc b16.size (.cells #[.int .i64 ns, (.slice A16 n16 c16), .int .i64 np] 25)
                have z18 : Blk (x16.alloc (.cells #[.int .i64 ns, (.slice A16 n16 c16), .int .i64 np] 25)) x16.heap.size 25 #[.int .i64 ns, (.slice A16 n16 c16), .int .i64 np] := heap_alloc_new x16 _
                have o18 : MOwn (x16.alloc (.cells #[.int .i64 ns, (.slice A16 n16 c16), .int .i64 np] 25)) w5.heap.size (.slice A16 n16 c16) (t ++ [(1, 0)]) := MOwn.allocd a16 _
                refine hK.out _ (x16.alloc (.cells #[.int .i64 ns, (.slice A16 n16 c16), .int .i64 np] 25)) (k18) (fun hHeld => ?_)
                clear hK K
                try simp only [Act.put, List.setIfInBounds_toArray, List.set_cons_zero, List.set_cons_succ]
                refine wpAnyH_done (by kernel_rfl) ?_ _
                go_wp2
                go_meet
                exact ⟨x16.heap.size, _, rfl, Lib.hid ⟨z18, o18, k18⟩⟩
              · go_simp
                have b19 := b15.alloc b15.size (.cells #[.int .i64 0, .slice none 0 0, .int .i64 0] 25)
                have a19 := MOwn.allocd a15 (.cells #[.int .i64 0, .slice none 0 0, .int .i64 0] 25)
                have n19 := GRd.keep n15 (SameAt.of_below ((Below.refl _ x15).alloc (Nat.le_refl _) (.cells #[.int .i64 0, .slice none 0 0, .int .i64 0] 25)))
                have z19 : Blk (x15.alloc (.cells #[.int .i64 0, .slice none 0 0, .int .i64 0] 25)) x15.heap.size 25 #[.int .i64 0, .slice none 0 0, .int .i64 0] := by have h : Blk (x15.alloc (.cells #[.int .i64 0, .slice none 0 0, .int .i64 0] 25)) x15.heap.size 25 #[.int .i64 0, .slice none 0 0, .int .i64 0] := heap_alloc_new x15 _; exact h
                have h19 : w5.heap.size ≤ x15.heap.size := by have h := b15.size; first | omega | (simp at h; omega) | (simp at h)
                refine hK.out _ (x15.alloc (.cells #[.int .i64 0, .slice none 0 0, .int .i64 0] 25)) (b19) (fun hHeld => ?_)
                clear hK K
                try simp only [Act.put, List.setIfInBounds_toArray, List.set_cons_zero, List.set_cons_succ]
                refine ready_one (i := 9) rfl (by kernel_rfl) (fun K hK => ?_)
                obtain ⟨v20, x20, r20, o20, q20, y20⟩ := run_app_row (x15.alloc (.cells #[.int .i64 0, .slice none 0 0, .int .i64 0] 25)) w5.heap.size v15 t (w5.heap.size + 1) 0 1 1 [(1, 0)] a19 n19 (by omega) (by simp) b19.size
                refine step_append (s := .tmp 33) (x := .tmp 35) rfl rfl r20 ?_
                have b20 : Below w5.heap.size w5 x20 := b19.grown q20 b19.size (fun g hg => (GOwn.ge a19 g hg).1)
                have z20 : Blk x20 x15.heap.size 25 #[.int .i64 0, .slice none 0 0, .int .i64 0] := z19.app a19 q20
                have a20 : MOwn x20 w5.heap.size v20 (t ++ [(1, 0)]) := o20
                obtain ⟨A20, n20, c20, rfl⟩ := mform a20
                refine hK.out _ x20 (b20) (fun hHeld => ?_)
                clear hK K
                try simp only [Act.put, List.setIfInBounds_toArray, List.set_cons_zero, List.set_cons_succ]
                refine take_in (i := 13) (v := ?_) rfl (by kernel_rfl) (fun _ _ _ h => h) rfl ?_ hHeld ?_
                rotate_left
                · intro w' hSw; go_simp; all_goals with_reducible rfl
                try simp only [Act.put, List.setIfInBounds_toArray, List.set_cons_zero, List.set_cons_succ]
                refine ready_one (i := 15) rfl (by kernel_rfl) (fun K hK => ?_)
                obtain ⟨⟨z0, z1, z2⟩, f0, f1, f2⟩ := three_cells z20
                go_simp
                have k21 := (((b20.setCell (p := ⟨x15.heap.size, 0, none⟩) h19 (.int .i64 ns)).setCell (p := ⟨x15.heap.size, 1, none⟩) h19 (.slice A20 n20 c20)).setCell (p := ⟨x15.heap.size, 2, none⟩) h19 (.int .i64 np))
                have zz1 := z20.set_ 0 (.int .i64 ns)
                have zz2 := zz1.set_ 1 (.slice A20 n20 c20)
                have z21 : Blk ((((x20).setCell ⟨x15.heap.size, 0, none⟩ (.int .i64 ns)).setCell ⟨x15.heap.size, 1, none⟩ (.slice A20 n20 c20)).setCell ⟨x15.heap.size, 2, none⟩ (.int .i64 np)) x15.heap.size 25 #[.int .i64 ns, (.slice A20 n20 c20), .int .i64 np] := zz2.set_ 2 (.int .i64 np)
                have o21 : MOwn ((((x20).setCell ⟨x15.heap.size, 0, none⟩ (.int .i64 ns)).setCell ⟨x15.heap.size, 1, none⟩ (.slice A20 n20 c20)).setCell ⟨x15.heap.size, 2, none⟩ (.int .i64 np)) w5.heap.size (.slice A20 n20 c20) (t ++ [(1, 0)]) := ((MOwn.stay a20 (Stay.set_w z20 _)).stay (Stay.set_w zz1 _)).stay (Stay.set_w zz2 _)
                refine hK.out _ ((((x20).setCell ⟨x15.heap.size, 0, none⟩ (.int .i64 ns)).setCell ⟨x15.heap.size, 1, none⟩ (.slice A20 n20 c20)).setCell ⟨x15.heap.size, 2, none⟩ (.int .i64 np)) (k21) (fun hHeld => ?_)
                clear hK K
                try simp only [Act.put, List.setIfInBounds_toArray, List.set_cons_zero, List.set_cons_succ]
                refine wpAnyH_done (by kernel_rfl) ?_ _
                go_wp2
                go_meet
                exact ⟨x15.heap.size, _, rfl, Lib.hid ⟨z21, o21, k21⟩⟩
            · go_simp
              have b22 := b14.alloc b14.size (.cells #[.int .i64 0, .slice none 0 0, .int .i64 0] 25)
              have a22 := MOwn.allocd a14 (.cells #[.int .i64 0, .slice none 0 0, .int .i64 0] 25)
              have n22 := GRd.keep n14 (SameAt.of_below ((Below.refl _ ((w5.drew.alloc (.cells #[] 34)).alloc (.cells #[.int .i64 1, .int .i64 0] 34))).alloc (Nat.le_refl _) (.cells #[.int .i64 0, .slice none 0 0, .int .i64 0] 25)))
              have z22 : Blk (((w5.drew.alloc (.cells #[] 34)).alloc (.cells #[.int .i64 1, .int .i64 0] 34)).alloc (.cells #[.int .i64 0, .slice none 0 0, .int .i64 0] 25)) (w5.heap.size + 2) 25 #[.int .i64 0, .slice none 0 0, .int .i64 0] := by have h : Blk (((w5.drew.alloc (.cells #[] 34)).alloc (.cells #[.int .i64 1, .int .i64 0] 34)).alloc (.cells #[.int .i64 0, .slice none 0 0, .int .i64 0] 25)) ((w5.drew.alloc (.cells #[] 34)).alloc (.cells #[.int .i64 1, .int .i64 0] 34)).heap.size 25 #[.int .i64 0, .slice none 0 0, .int .i64 0] := heap_alloc_new ((w5.drew.alloc (.cells #[] 34)).alloc (.cells #[.int .i64 1, .int .i64 0] 34)) _; rwa [show ((w5.drew.alloc (.cells #[] 34)).alloc (.cells #[.int .i64 1, .int .i64 0] 34)).heap.size = w5.heap.size + 2 by simp] at h
              have h22 : w5.heap.size ≤ w5.heap.size + 2 := by have h := b14.size; first | omega | (simp at h; omega) | (simp at h)
              refine hK.out _ (((w5.drew.alloc (.cells #[] 34)).alloc (.cells #[.int .i64 1, .int .i64 0] 34)).alloc (.cells #[.int .i64 0, .slice none 0 0, .int .i64 0] 25)) (b22) (fun hHeld => ?_)
              clear hK K
              try simp only [Act.put, List.setIfInBounds_toArray, List.set_cons_zero, List.set_cons_succ]
              refine ready_one (i := 6) rfl (by kernel_rfl) (fun K hK => ?_)
              obtain ⟨v23, x23, r23, o23, q23, y23⟩ := run_app_row (((w5.drew.alloc (.cells #[] 34)).alloc (.cells #[.int .i64 1, .int .i64 0] 34)).alloc (.cells #[.int .i64 0, .slice none 0 0, .int .i64 0] 25)) w5.heap.size (.slice (some ⟨w5.heap.size, 0, none⟩) 0 0) [] g 0 t.length c t a22 (HV.out _ b22) (by simp) (by omega) b22.size
              refine step_append (s := .tmp 30) (x := .tmp 32) rfl rfl r23 ?_
              have b23 : Below w5.heap.size w5 x23 := b22.grown q23 b22.size (fun g hg => (GOwn.ge a22 g hg).1)
              have z23 : Blk x23 (w5.heap.size + 2) 25 #[.int .i64 0, .slice none 0 0, .int .i64 0] := z22.app a22 q23
              have a23 : MOwn x23 w5.heap.size v23 t := by simpa using o23
              have n23 := GRd.keep n22 (SameAt.of_grown q23 (.inr (fun e => e14 e.symm)))
              have e23 : v23.ownBlock ≠ some (w5.heap.size + 1) := by
                rcases y23 with y | y
                · rw [y]; exact e14
                · rw [y]; intro e; have h := Option.some.inj e; have h2 := GRd.blk n22; omega
              refine hK.out _ x23 (b23) (fun hHeld => ?_)
              clear hK K
              try simp only [Act.put, List.setIfInBounds_toArray, List.set_cons_zero, List.set_cons_succ]
              refine ready_one (i := 9) rfl (by kernel_rfl) (fun K hK => ?_)
              obtain ⟨v24, x24, r24, o24, q24, y24⟩ := run_app_row x23 w5.heap.size v23 t (w5.heap.size + 1) 0 1 1 [(1, 0)] a23 n23 (by omega) (by simp) b23.size
              refine step_append (s := .tmp 33) (x := .tmp 35) rfl rfl r24 ?_
              have b24 : Below w5.heap.size w5 x24 := b23.grown q24 b23.size (fun g hg => (GOwn.ge a23 g hg).1)
              have z24 : Blk x24 (w5.heap.size + 2) 25 #[.int .i64 0, .slice none 0 0, .int .i64 0] := z23.app a23 q24
              have a24 : MOwn x24 w5.heap.size v24 (t ++ [(1, 0)]) := o24
              obtain ⟨A24, n24, c24, rfl⟩ := mform a24
              refine hK.out _ x24 (b24) (fun hHeld => ?_)
              clear hK K
              try simp only [Act.put, List.setIfInBounds_toArray, List.set_cons_zero, List.set_cons_succ]
              refine take_in (i := 13) (v := ?_) rfl (by kernel_rfl) (fun _ _ _ h => h) rfl ?_ hHeld ?_
              rotate_left
              · intro w' hSw; go_simp; all_goals with_reducible rfl
              try simp only [Act.put, List.setIfInBounds_toArray, List.set_cons_zero, List.set_cons_succ]
              refine ready_one (i := 15) rfl (by kernel_rfl) (fun K hK => ?_)
              obtain ⟨⟨z0, z1, z2⟩, f0, f1, f2⟩ := three_cells z24
              go_simp
              have k25 := (((b24.setCell (p := ⟨w5.heap.size + 2, 0, none⟩) h22 (.int .i64 ns)).setCell (p := ⟨w5.heap.size + 2, 1, none⟩) h22 (.slice A24 n24 c24)).setCell (p := ⟨w5.heap.size + 2, 2, none⟩) h22 (.int .i64 np))
              have zz1 := z24.set_ 0 (.int .i64 ns)
              have zz2 := zz1.set_ 1 (.slice A24 n24 c24)
              have z25 : Blk ((((x24).setCell ⟨w5.heap.size + 2, 0, none⟩ (.int .i64 ns)).setCell ⟨w5.heap.size + 2, 1, none⟩ (.slice A24 n24 c24)).setCell ⟨w5.heap.size + 2, 2, none⟩ (.int .i64 np)) (w5.heap.size + 2) 25 #[.int .i64 ns, (.slice A24 n24 c24), .int .i64 np] := zz2.set_ 2 (.int .i64 np)
              have o25 : MOwn ((((x24).setCell ⟨w5.heap.size + 2, 0, none⟩ (.int .i64 ns)).setCell ⟨w5.heap.size + 2, 1, none⟩ (.slice A24 n24 c24)).setCell ⟨w5.heap.size + 2, 2, none⟩ (.int .i64 np)) w5.heap.size (.slice A24 n24 c24) (t ++ [(1, 0)]) := ((MOwn.stay a24 (Stay.set_w z24 _)).stay (Stay.set_w zz1 _)).stay (Stay.set_w zz2 _)
              refine hK.out _ ((((x24).setCell ⟨w5.heap.size + 2, 0, none⟩ (.int .i64 ns)).setCell ⟨w5.heap.size + 2, 1, none⟩ (.slice A24 n24 c24)).setCell ⟨w5.heap.size + 2, 2, none⟩ (.int .i64 np)) (k25) (fun hHeld => ?_)
              clear hK K
              try simp only [Act.put, List.setIfInBounds_toArray, List.set_cons_zero, List.set_cons_succ]
              refine wpAnyH_done (by kernel_rfl) ?_ _
              go_wp2
              go_meet
              exact ⟨w5.heap.size + 2, _, rfl, Lib.hid ⟨z25, o25, k25⟩⟩
          · go_simp
            have b26 := b1.alloc b1.size (.cells #[.int .i64 0, .slice none 0 0, .int .i64 0] 25)
            have a26 := MOwn.allocd a1 (.cells #[.int .i64 0, .slice none 0 0, .int .i64 0] 25)
            have z26 : Blk ((w5.drew.alloc (.cells #[] 34)).alloc (.cells #[.int .i64 0, .slice none 0 0, .int .i64 0] 25)) (w5.heap.size + 1) 25 #[.int .i64 0, .slice none 0 0, .int .i64 0] := by have h : Blk ((w5.drew.alloc (.cells #[] 34)).alloc (.cells #[.int .i64 0, .slice none 0 0, .int .i64 0] 25)) (w5.drew.alloc (.cells #[] 34)).heap.size 25 #[.int .i64 0, .slice none 0 0, .int .i64 0] := heap_alloc_new (w5.drew.alloc (.cells #[] 34)) _; rwa [show (w5.drew.alloc (.cells #[] 34)).heap.size = w5.heap.size + 1 by simp] at h
            have h26 : w5.heap.size ≤ w5.heap.size + 1 := by have h := b1.size; first | omega | (simp at h; omega) | (simp at h)
            refine hK.out _ ((w5.drew.alloc (.cells #[] 34)).alloc (.cells #[.int .i64 0, .slice none 0 0, .int .i64 0] 25)) (b26) (fun hHeld => ?_)
            clear hK K
            try simp only [Act.put, List.setIfInBounds_toArray, List.set_cons_zero, List.set_cons_succ]
            refine ready_two (i := 6) (j := 8) rfl rfl (by kernel_rfl) (fun K hK => ?_) (fun K hK => ?_)
            · obtain ⟨v27, x27, r27, o27, q27, y27⟩ := run_app_row ((w5.drew.alloc (.cells #[] 34)).alloc (.cells #[.int .i64 0, .slice none 0 0, .int .i64 0] 25)) w5.heap.size (.slice (some ⟨w5.heap.size, 0, none⟩) 0 0) [] g 0 t.length c t a26 (HV.out _ b26) (by simp) (by omega) b26.size
              refine step_append (s := .tmp 30) (x := .tmp 32) rfl rfl r27 ?_
              have b27 : Below w5.heap.size w5 x27 := b26.grown q27 b26.size (fun g hg => (GOwn.ge a26 g hg).1)
              have z27 : Blk x27 (w5.heap.size + 1) 25 #[.int .i64 0, .slice none 0 0, .int .i64 0] := z26.app a26 q27
              have a27 : MOwn x27 w5.heap.size v27 t := by simpa using o27
              refine hK.out _ x27 (b27) (fun hHeld => ?_)
              clear hK K
              try simp only [Act.put, List.setIfInBounds_toArray, List.set_cons_zero, List.set_cons_succ]
              refine ready_one (i := 8) rfl (by kernel_rfl) (fun K hK => ?_)
              go_simp
              have b28 := b27.alloc b27.size (.cells #[.int .i64 1, .int .i64 0] 34)
              have a28 := MOwn.allocd a27 (.cells #[.int .i64 1, .int .i64 0] 34)
              have z28 : Blk (x27.alloc (.cells #[.int .i64 1, .int .i64 0] 34)) (w5.heap.size + 1) 25 #[.int .i64 0, .slice none 0 0, .int .i64 0] := (Below.heap_alloc x27 _ _ z27.lt).trans z27
              have n28 : QRd (x27.alloc (.cells #[.int .i64 1, .int .i64 0] 34)) (.slice (some ⟨x27.heap.size, 0, none⟩) 1 1) [(1, 0)] := by have h := GOwn.rd qC_len (mlit1 x27 w5.heap.size b27.size 1 0); exact h
              have e28 : v27.ownBlock ≠ some x27.heap.size := fun e => by have h := (GOwn.ge a27 _ e).2; first | omega | (simp at h; omega) | (simp at h)
              refine hK.out _ (x27.alloc (.cells #[.int .i64 1, .int .i64 0] 34)) (b28) (fun hHeld => ?_)
              clear hK K
              try simp only [Act.put, List.setIfInBounds_toArray, List.set_cons_zero, List.set_cons_succ]
              refine ready_one (i := 9) rfl (by kernel_rfl) (fun K hK => ?_)
              obtain ⟨v29, x29, r29, o29, q29, y29⟩ := run_app_row (x27.alloc (.cells #[.int .i64 1, .int .i64 0] 34)) w5.heap.size v27 t x27.heap.size 0 1 1 [(1, 0)] a28 n28 (by omega) (by simp) b28.size
              refine step_append (s := .tmp 33) (x := .tmp 35) rfl rfl r29 ?_
              have b29 : Below w5.heap.size w5 x29 := b28.grown q29 b28.size (fun g hg => (GOwn.ge a28 g hg).1)
              have z29 : Blk x29 (w5.heap.size + 1) 25 #[.int .i64 0, .slice none 0 0, .int .i64 0] := z28.app a28 q29
              have a29 : MOwn x29 w5.heap.size v29 (t ++ [(1, 0)]) := o29
              obtain ⟨A29, n29, c29, rfl⟩ := mform a29
              refine hK.out _ x29 (b29) (fun hHeld => ?_)
              clear hK K
              try simp only [Act.put, List.setIfInBounds_toArray, List.set_cons_zero, List.set_cons_succ]
              refine take_in (i := 13) (v := ?_) rfl (by kernel_rfl) (fun _ _ _ h => h) rfl ?_ hHeld ?_
              rotate_left
              · intro w' hSw; go_simp; all_goals with_reducible rfl
              try simp only [Act.put, List.setIfInBounds_toArray, List.set_cons_zero, List.set_cons_succ]
              refine ready_one (i := 15) rfl (by kernel_rfl) (fun K hK => ?_)
              obtain ⟨⟨z0, z1, z2⟩, f0, f1, f2⟩ := three_cells z29
              go_simp
              have k30 := (((b29.setCell (p := ⟨w5.heap.size + 1, 0, none⟩) h26 (.int .i64 ns)).setCell (p := ⟨w5.heap.size + 1, 1, none⟩) h26 (.slice A29 n29 c29)).setCell (p := ⟨w5.heap.size + 1, 2, none⟩) h26 (.int .i64 np))
              have zz1 := z29.set_ 0 (.int .i64 ns)
              have zz2 := zz1.set_ 1 (.slice A29 n29 c29)
              have z30 : Blk ((((x29).setCell ⟨w5.heap.size + 1, 0, none⟩ (.int .i64 ns)).setCell ⟨w5.heap.size + 1, 1, none⟩ (.slice A29 n29 c29)).setCell ⟨w5.heap.size + 1, 2, none⟩ (.int .i64 np)) (w5.heap.size + 1) 25 #[.int .i64 ns, (.slice A29 n29 c29), .int .i64 np] := zz2.set_ 2 (.int .i64 np)
              have o30 : MOwn ((((x29).setCell ⟨w5.heap.size + 1, 0, none⟩ (.int .i64 ns)).setCell ⟨w5.heap.size + 1, 1, none⟩ (.slice A29 n29 c29)).setCell ⟨w5.heap.size + 1, 2, none⟩ (.int .i64 np)) w5.heap.size (.slice A29 n29 c29) (t ++ [(1, 0)]) := ((MOwn.stay a29 (Stay.set_w z29 _)).stay (Stay.set_w zz1 _)).stay (Stay.set_w zz2 _)
              refine hK.out _ ((((x29).setCell ⟨w5.heap.size + 1, 0, none⟩ (.int .i64 ns)).setCell ⟨w5.heap.size + 1, 1, none⟩ (.slice A29 n29 c29)).setCell ⟨w5.heap.size + 1, 2, none⟩ (.int .i64 np)) (k30) (fun hHeld => ?_)
              clear hK K
              try simp only [Act.put, List.setIfInBounds_toArray, List.set_cons_zero, List.set_cons_succ]
              refine wpAnyH_done (by kernel_rfl) ?_ _
              go_wp2
              go_meet
              exact ⟨w5.heap.size + 1, _, rfl, Lib.hid ⟨z30, o30, k30⟩⟩
            · go_simp
              have b31 := b26.alloc b26.size (.cells #[.int .i64 1, .int .i64 0] 34)
              have a31 := MOwn.allocd a26 (.cells #[.int .i64 1, .int .i64 0] 34)
              have z31 : Blk (((w5.drew.alloc (.cells #[] 34)).alloc (.cells #[.int .i64 0, .slice none 0 0, .int .i64 0] 25)).alloc (.cells #[.int .i64 1, .int .i64 0] 34)) (w5.heap.size + 1) 25 #[.int .i64 0, .slice none 0 0, .int .i64 0] := (Below.heap_alloc ((w5.drew.alloc (.cells #[] 34)).alloc (.cells #[.int .i64 0, .slice none 0 0, .int .i64 0] 25)) _ _ z26.lt).trans z26
              have n31 : QRd (((w5.drew.alloc (.cells #[] 34)).alloc (.cells #[.int .i64 0, .slice none 0 0, .int .i64 0] 25)).alloc (.cells #[.int .i64 1, .int .i64 0] 34)) (.slice (some ⟨w5.heap.size + 2, 0, none⟩) 1 1) [(1, 0)] := by have h := GOwn.rd qC_len (mlit1 ((w5.drew.alloc (.cells #[] 34)).alloc (.cells #[.int .i64 0, .slice none 0 0, .int .i64 0] 25)) w5.heap.size b26.size 1 0); rwa [show ((w5.drew.alloc (.cells #[] 34)).alloc (.cells #[.int .i64 0, .slice none 0 0, .int .i64 0] 25)).heap.size = w5.heap.size + 2 by simp] at h
              have e31 : (Value.slice (some ⟨w5.heap.size, 0, none⟩) 0 0).ownBlock ≠ some (w5.heap.size + 2) := fun e => by have h := (GOwn.ge a26 _ e).2; first | omega | (simp at h; omega) | (simp at h)
              refine hK.out _ (((w5.drew.alloc (.cells #[] 34)).alloc (.cells #[.int .i64 0, .slice none 0 0, .int .i64 0] 25)).alloc (.cells #[.int .i64 1, .int .i64 0] 34)) (b31) (fun hHeld => ?_)
              clear hK K
              try simp only [Act.put, List.setIfInBounds_toArray, List.set_cons_zero, List.set_cons_succ]
              refine ready_one (i := 6) rfl (by kernel_rfl) (fun K hK => ?_)
              obtain ⟨v32, x32, r32, o32, q32, y32⟩ := run_app_row (((w5.drew.alloc (.cells #[] 34)).alloc (.cells #[.int .i64 0, .slice none 0 0, .int .i64 0] 25)).alloc (.cells #[.int .i64 1, .int .i64 0] 34)) w5.heap.size (.slice (some ⟨w5.heap.size, 0, none⟩) 0 0) [] g 0 t.length c t a31 (HV.out _ b31) (by simp) (by omega) b31.size
              refine step_append (s := .tmp 30) (x := .tmp 32) rfl rfl r32 ?_
              have b32 : Below w5.heap.size w5 x32 := b31.grown q32 b31.size (fun g hg => (GOwn.ge a31 g hg).1)
              have z32 : Blk x32 (w5.heap.size + 1) 25 #[.int .i64 0, .slice none 0 0, .int .i64 0] := z31.app a31 q32
              have a32 : MOwn x32 w5.heap.size v32 t := by simpa using o32
              have n32 := GRd.keep n31 (SameAt.of_grown q32 (.inr (fun e => e31 e.symm)))
              have e32 : v32.ownBlock ≠ some (w5.heap.size + 2) := by
                rcases y32 with y | y
                · rw [y]; exact e31
                · rw [y]; intro e; have h := Option.some.inj e; have h2 := GRd.blk n31; omega
              refine hK.out _ x32 (b32) (fun hHeld => ?_)
              clear hK K
              try simp only [Act.put, List.setIfInBounds_toArray, List.set_cons_zero, List.set_cons_succ]
              refine ready_one (i := 9) rfl (by kernel_rfl) (fun K hK => ?_)
              obtain ⟨v33, x33, r33, o33, q33, y33⟩ := run_app_row x32 w5.heap.size v32 t (w5.heap.size + 2) 0 1 1 [(1, 0)] a32 n32 (by omega) (by simp) b32.size
              refine step_append (s := .tmp 33) (x := .tmp 35) rfl rfl r33 ?_
              have b33 : Below w5.heap.size w5 x33 := b32.grown q33 b32.size (fun g hg => (GOwn.ge a32 g hg).1)
              have z33 : Blk x33 (w5.heap.size + 1) 25 #[.int .i64 0, .slice none 0 0, .int .i64 0] := z32.app a32 q33
              have a33 : MOwn x33 w5.heap.size v33 (t ++ [(1, 0)]) := o33
              obtain ⟨A33, n33, c33, rfl⟩ := mform a33
              refine hK.out _ x33 (b33) (fun hHeld => ?_)
              clear hK K
              try simp only [Act.put, List.setIfInBounds_toArray, List.set_cons_zero, List.set_cons_succ]
              refine take_in (i := 13) (v := ?_) rfl (by kernel_rfl) (fun _ _ _ h => h) rfl ?_ hHeld ?_
              rotate_left
              · intro w' hSw; go_simp; all_goals with_reducible rfl
              try simp only [Act.put, List.setIfInBounds_toArray, List.set_cons_zero, List.set_cons_succ]
              refine ready_one (i := 15) rfl (by kernel_rfl) (fun K hK => ?_)
              obtain ⟨⟨z0, z1, z2⟩, f0, f1, f2⟩ := three_cells z33
              go_simp
              have k34 := (((b33.setCell (p := ⟨w5.heap.size + 1, 0, none⟩) h26 (.int .i64 ns)).setCell (p := ⟨w5.heap.size + 1, 1, none⟩) h26 (.slice A33 n33 c33)).setCell (p := ⟨w5.heap.size + 1, 2, none⟩) h26 (.int .i64 np))
              have zz1 := z33.set_ 0 (.int .i64 ns)
              have zz2 := zz1.set_ 1 (.slice A33 n33 c33)
              have z34 : Blk ((((x33).setCell ⟨w5.heap.size + 1, 0, none⟩ (.int .i64 ns)).setCell ⟨w5.heap.size + 1, 1, none⟩ (.slice A33 n33 c33)).setCell ⟨w5.heap.size + 1, 2, none⟩ (.int .i64 np)) (w5.heap.size + 1) 25 #[.int .i64 ns, (.slice A33 n33 c33), .int .i64 np] := zz2.set_ 2 (.int .i64 np)
              have o34 : MOwn ((((x33).setCell ⟨w5.heap.size + 1, 0, none⟩ (.int .i64 ns)).setCell ⟨w5.heap.size + 1, 1, none⟩ (.slice A33 n33 c33)).setCell ⟨w5.heap.size + 1, 2, none⟩ (.int .i64 np)) w5.heap.size (.slice A33 n33 c33) (t ++ [(1, 0)]) := ((MOwn.stay a33 (Stay.set_w z33 _)).stay (Stay.set_w zz1 _)).stay (Stay.set_w zz2 _)
              refine hK.out _ ((((x33).setCell ⟨w5.heap.size + 1, 0, none⟩ (.int .i64 ns)).setCell ⟨w5.heap.size + 1, 1, none⟩ (.slice A33 n33 c33)).setCell ⟨w5.heap.size + 1, 2, none⟩ (.int .i64 np)) (k34) (fun hHeld => ?_)
              clear hK K
              try simp only [Act.put, List.setIfInBounds_toArray, List.set_cons_zero, List.set_cons_succ]
              refine wpAnyH_done (by kernel_rfl) ?_ _
              go_wp2
              go_meet
              exact ⟨w5.heap.size + 1, _, rfl, Lib.hid ⟨z34, o34, k34⟩⟩
        · go_simp
          have b35 := k0.alloc k0.size (.cells #[.int .i64 1, .int .i64 0] 34)
          have n35 : QRd (w5.drew.alloc (.cells #[.int .i64 1, .int .i64 0] 34)) (.slice (some ⟨w5.heap.size, 0, none⟩) 1 1) [(1, 0)] := by have h := GOwn.rd qC_len (mlit1 w5.drew w5.heap.size k0.size 1 0); exact h
          refine hK.out _ (w5.drew.alloc (.cells #[.int .i64 1, .int .i64 0] 34)) (b35) (fun hHeld => ?_)
          clear hK K
          try simp only [Act.put, List.setIfInBounds_toArray, List.set_cons_zero, List.set_cons_succ]
          refine ready_two (i := 3) (j := 14) rfl rfl (by kernel_rfl) (fun K hK => ?_) (fun K hK => ?_)
          · go_simp
            have b36 := b35.alloc b35.size (.cells #[] 34)
            have n36 := GRd.keep n35 (SameAt.of_below ((Below.refl _ (w5.drew.alloc (.cells #[.int .i64 1, .int .i64 0] 34))).alloc (Nat.le_refl _) (.cells #[] 34)))
            have a36 : MOwn ((w5.drew.alloc (.cells #[.int .i64 1, .int .i64 0] 34)).alloc (.cells #[] 34)) w5.heap.size (.slice (some ⟨w5.heap.size + 1, 0, none⟩) 0 0) [] := by have h := mlit0 (w5.drew.alloc (.cells #[.int .i64 1, .int .i64 0] 34)) w5.heap.size b35.size; rwa [show (w5.drew.alloc (.cells #[.int .i64 1, .int .i64 0] 34)).heap.size = w5.heap.size + 1 by simp] at h
            have e36 : (Value.slice (some ⟨w5.heap.size + 1, 0, none⟩) 0 0).ownBlock ≠ some w5.heap.size := by intro e; have h : w5.heap.size + 1 = w5.heap.size := Option.some.inj e; have h2 := GRd.blk n35; omega
            refine hK.out _ ((w5.drew.alloc (.cells #[.int .i64 1, .int .i64 0] 34)).alloc (.cells #[] 34)) (b36) (fun hHeld => ?_)
            clear hK K
            try simp only [Act.put, List.setIfInBounds_toArray, List.set_cons_zero, List.set_cons_succ]
            refine ready_two (i := 6) (j := 14) rfl rfl (by kernel_rfl) (fun K hK => ?_) (fun K hK => ?_)
            · obtain ⟨v37, x37, r37, o37, q37, y37⟩ := run_app_row ((w5.drew.alloc (.cells #[.int .i64 1, .int .i64 0] 34)).alloc (.cells #[] 34)) w5.heap.size (.slice (some ⟨w5.heap.size + 1, 0, none⟩) 0 0) [] g 0 t.length c t a36 (HV.out _ b36) (by simp) (by omega) b36.size
              refine step_append (s := .tmp 30) (x := .tmp 32) rfl rfl r37 ?_
              have b37 : Below w5.heap.size w5 x37 := b36.grown q37 b36.size (fun g hg => (GOwn.ge a36 g hg).1)
              have a37 : MOwn x37 w5.heap.size v37 t := by simpa using o37
              have n37 := GRd.keep n36 (SameAt.of_grown q37 (.inr (fun e => e36 e.symm)))
              have e37 : v37.ownBlock ≠ some w5.heap.size := by
                rcases y37 with y | y
                · rw [y]; exact e36
                · rw [y]; intro e; have h := Option.some.inj e; have h2 := GRd.blk n36; omega
              refine hK.out _ x37 (b37) (fun hHeld => ?_)
              clear hK K
              try simp only [Act.put, List.setIfInBounds_toArray, List.set_cons_zero, List.set_cons_succ]
              refine ready_two (i := 9) (j := 14) rfl rfl (by kernel_rfl) (fun K hK => ?_) (fun K hK => ?_)
              · obtain ⟨v38, x38, r38, o38, q38, y38⟩ := run_app_row x37 w5.heap.size v37 t w5.heap.size 0 1 1 [(1, 0)] a37 n37 (by omega) (by simp) b37.size
                refine step_append (s := .tmp 33) (x := .tmp 35) rfl rfl r38 ?_
                have b38 : Below w5.heap.size w5 x38 := b37.grown q38 b37.size (fun g hg => (GOwn.ge a37 g hg).1)
                have a38 : MOwn x38 w5.heap.size v38 (t ++ [(1, 0)]) := o38
                obtain ⟨A38, n38, c38, rfl⟩ := mform a38
                refine hK.out _ x38 (b38) (fun hHeld => ?_)
                clear hK K
                try simp only [Act.put, List.setIfInBounds_toArray, List.set_cons_zero, List.set_cons_succ]
                refine take_in (i := 13) (v := ?_) rfl (by kernel_rfl) (fun _ _ _ h => h) rfl ?_ hHeld ?_
                rotate_left
                · intro w' hSw; go_simp; all_goals with_reducible rfl
                try simp only [Act.put, List.setIfInBounds_toArray, List.set_cons_zero, List.set_cons_succ]
                refine ready_one (i := 14) rfl (by kernel_rfl) (fun K hK => ?_)
                go_simp
                have b39 := b38.alloc b38.size (.cells #[.int .i64 0, .slice none 0 0, .int .i64 0] 25)
                have a39 := MOwn.allocd a38 (.cells #[.int .i64 0, .slice none 0 0, .int .i64 0] 25)
                have z39 : Blk (x38.alloc (.cells #[.int .i64 0, .slice none 0 0, .int .i64 0] 25)) x38.heap.size 25 #[.int .i64 0, .slice none 0 0, .int .i64 0] := by have h : Blk (x38.alloc (.cells #[.int .i64 0, .slice none 0 0, .int .i64 0] 25)) x38.heap.size 25 #[.int .i64 0, .slice none 0 0, .int .i64 0] := heap_alloc_new x38 _; exact h
                have h39 : w5.heap.size ≤ x38.heap.size := by have h := b38.size; first | omega | (simp at h; omega) | (simp at h)
                refine hK.out _ (x38.alloc (.cells #[.int .i64 0, .slice none 0 0, .int .i64 0] 25)) (b39) (fun hHeld => ?_)
                clear hK K
                try simp only [Act.put, List.setIfInBounds_toArray, List.set_cons_zero, List.set_cons_succ]
                refine ready_one (i := 15) rfl (by kernel_rfl) (fun K hK => ?_)
                obtain ⟨⟨z0, z1, z2⟩, f0, f1, f2⟩ := three_cells z39
                go_simp
                have k40 := b38.alloc b38.size (.cells #[.int .i64 ns, (.slice A38 n38 c38), .int .i64 np] 25)
                have z40 : Blk (x38.alloc (.cells #[.int .i64 ns, (.slice A38 n38 c38), .int .i64 np] 25)) x38.heap.size 25 #[.int .i64 ns, (.slice A38 n38 c38), .int .i64 np] := heap_alloc_new x38 _
                have o40 : MOwn (x38.alloc (.cells #[.int .i64 ns, (.slice A38 n38 c38), .int .i64 np] 25)) w5.heap.size (.slice A38 n38 c38) (t ++ [(1, 0)]) := MOwn.allocd a38 _
                refine hK.out _ (x38.alloc (.cells #[.int .i64 ns, (.slice A38 n38 c38), .int .i64 np] 25)) (k40) (fun hHeld => ?_)
                clear hK K
                try simp only [Act.put, List.setIfInBounds_toArray, List.set_cons_zero, List.set_cons_succ]
                refine wpAnyH_done (by kernel_rfl) ?_ _
                go_wp2
                go_meet
                exact ⟨x38.heap.size, _, rfl, Lib.hid ⟨z40, o40, k40⟩⟩
              · go_simp
                have b41 := b37.alloc b37.size (.cells #[.int .i64 0, .slice none 0 0, .int .i64 0] 25)
                have a41 := MOwn.allocd a37 (.cells #[.int .i64 0, .slice none 0 0, .int .i64 0] 25)
                have n41 := GRd.keep n37 (SameAt.of_below ((Below.refl _ x37).alloc (Nat.le_refl _) (.cells #[.int .i64 0, .slice none 0 0, .int .i64 0] 25)))
                have z41 : Blk (x37.alloc (.cells #[.int .i64 0, .slice none 0 0, .int .i64 0] 25)) x37.heap.size 25 #[.int .i64 0, .slice none 0 0, .int .i64 0] := by have h : Blk (x37.alloc (.cells #[.int .i64 0, .slice none 0 0, .int .i64 0] 25)) x37.heap.size 25 #[.int .i64 0, .slice none 0 0, .int .i64 0] := heap_alloc_new x37 _; exact h
                have h41 : w5.heap.size ≤ x37.heap.size := by have h := b37.size; first | omega | (simp at h; omega) | (simp at h)
                refine hK.out _ (x37.alloc (.cells #[.int .i64 0, .slice none 0 0, .int .i64 0] 25)) (b41) (fun hHeld => ?_)
                clear hK K
                try simp only [Act.put, List.setIfInBounds_toArray, List.set_cons_zero, List.set_cons_succ]
                refine ready_one (i := 9) rfl (by kernel_rfl) (fun K hK => ?_)
                obtain ⟨v42, x42, r42, o42, q42, y42⟩ := run_app_row (x37.alloc (.cells #[.int .i64 0, .slice none 0 0, .int .i64 0] 25)) w5.heap.size v37 t w5.heap.size 0 1 1 [(1, 0)] a41 n41 (by omega) (by simp) b41.size
                refine step_append (s := .tmp 33) (x := .tmp 35) rfl rfl r42 ?_
                have b42 : Below w5.heap.size w5 x42 := b41.grown q42 b41.size (fun g hg => (GOwn.ge a41 g hg).1)
                have z42 : Blk x42 x37.heap.size 25 #[.int .i64 0, .slice none 0 0, .int .i64 0] := z41.app a41 q42
                have a42 : MOwn x42 w5.heap.size v42 (t ++ [(1, 0)]) := o42
                obtain ⟨A42, n42, c42, rfl⟩ := mform a42
                refine hK.out _ x42 (b42) (fun hHeld => ?_)
                clear hK K
                try simp only [Act.put, List.setIfInBounds_toArray, List.set_cons_zero, List.set_cons_succ]
                refine take_in (i := 13) (v := ?_) rfl (by kernel_rfl) (fun _ _ _ h => h) rfl ?_ hHeld ?_
                rotate_left
                · intro w' hSw; go_simp; all_goals with_reducible rfl
                try simp only [Act.put, List.setIfInBounds_toArray, List.set_cons_zero, List.set_cons_succ]
                refine ready_one (i := 15) rfl (by kernel_rfl) (fun K hK => ?_)
                obtain ⟨⟨z0, z1, z2⟩, f0, f1, f2⟩ := three_cells z42
                go_simp
                have k43 := (((b42.setCell (p := ⟨x37.heap.size, 0, none⟩) h41 (.int .i64 ns)).setCell (p := ⟨x37.heap.size, 1, none⟩) h41 (.slice A42 n42 c42)).setCell (p := ⟨x37.heap.size, 2, none⟩) h41 (.int .i64 np))
                have zz1 := z42.set_ 0 (.int .i64 ns)
                have zz2 := zz1.set_ 1 (.slice A42 n42 c42)
                have z43 : Blk ((((x42).setCell ⟨x37.heap.size, 0, none⟩ (.int .i64 ns)).setCell ⟨x37.heap.size, 1, none⟩ (.slice A42 n42 c42)).setCell ⟨x37.heap.size, 2, none⟩ (.int .i64 np)) x37.heap.size 25 #[.int .i64 ns, (.slice A42 n42 c42), .int .i64 np] := zz2.set_ 2 (.int .i64 np)
                have o43 : MOwn ((((x42).setCell ⟨x37.heap.size, 0, none⟩ (.int .i64 ns)).setCell ⟨x37.heap.size, 1, none⟩ (.slice A42 n42 c42)).setCell ⟨x37.heap.size, 2, none⟩ (.int .i64 np)) w5.heap.size (.slice A42 n42 c42) (t ++ [(1, 0)]) := ((MOwn.stay a42 (Stay.set_w z42 _)).stay (Stay.set_w zz1 _)).stay (Stay.set_w zz2 _)
                refine hK.out _ ((((x42).setCell ⟨x37.heap.size, 0, none⟩ (.int .i64 ns)).setCell ⟨x37.heap.size, 1, none⟩ (.slice A42 n42 c42)).setCell ⟨x37.heap.size, 2, none⟩ (.int .i64 np)) (k43) (fun hHeld => ?_)
                clear hK K
                try simp only [Act.put, List.setIfInBounds_toArray, List.set_cons_zero, List.set_cons_succ]
                refine wpAnyH_done (by kernel_rfl) ?_ _
                go_wp2
                go_meet
                exact ⟨x37.heap.size, _, rfl, Lib.hid ⟨z43, o43, k43⟩⟩
            · go_simp
              have b44 := b36.alloc b36.size (.cells #[.int .i64 0, .slice none 0 0, .int .i64 0] 25)
              have a44 := MOwn.allocd a36 (.cells #[.int .i64 0, .slice none 0 0, .int .i64 0] 25)
              have n44 := GRd.keep n36 (SameAt.of_below ((Below.refl _ ((w5.drew.alloc (.cells #[.int .i64 1, .int .i64 0] 34)).alloc (.cells #[] 34))).alloc (Nat.le_refl _) (.cells #[.int .i64 0, .slice none 0 0, .int .i64 0] 25)))
              have z44 : Blk (((w5.drew.alloc (.cells #[.int .i64 1, .int .i64 0] 34)).alloc (.cells #[] 34)).alloc (.cells #[.int .i64 0, .slice none 0 0, .int .i64 0] 25)) (w5.heap.size + 2) 25 #[.int .i64 0, .slice none 0 0, .int .i64 0] := by have h : Blk (((w5.drew.alloc (.cells #[.int .i64 1, .int .i64 0] 34)).alloc (.cells #[] 34)).alloc (.cells #[.int .i64 0, .slice none 0 0, .int .i64 0] 25)) ((w5.drew.alloc (.cells #[.int .i64 1, .int .i64 0] 34)).alloc (.cells #[] 34)).heap.size 25 #[.int .i64 0, .slice none 0 0, .int .i64 0] := heap_alloc_new ((w5.drew.alloc (.cells #[.int .i64 1, .int .i64 0] 34)).alloc (.cells #[] 34)) _; rwa [show ((w5.drew.alloc (.cells #[.int .i64 1, .int .i64 0] 34)).alloc (.cells #[] 34)).heap.size = w5.heap.size + 2 by simp] at h
              have h44 : w5.heap.size ≤ w5.heap.size + 2 := by have h := b36.size; first | omega | (simp at h; omega) | (simp at h)
              refine hK.out _ (((w5.drew.alloc (.cells #[.int .i64 1, .int .i64 0] 34)).alloc (.cells #[] 34)).alloc (.cells #[.int .i64 0, .slice none 0 0, .int .i64 0] 25)) (b44) (fun hHeld => ?_)
              clear hK K
              try simp only [Act.put, List.setIfInBounds_toArray, List.set_cons_zero, List.set_cons_succ]
              refine ready_one (i := 6) rfl (by kernel_rfl) (fun K hK => ?_)
              obtain ⟨v45, x45, r45, o45, q45, y45⟩ := run_app_row (((w5.drew.alloc (.cells #[.int .i64 1, .int .i64 0] 34)).alloc (.cells #[] 34)).alloc (.cells #[.int .i64 0, .slice none 0 0, .int .i64 0] 25)) w5.heap.size (.slice (some ⟨w5.heap.size + 1, 0, none⟩) 0 0) [] g 0 t.length c t a44 (HV.out _ b44) (by simp) (by omega) b44.size
              refine step_append (s := .tmp 30) (x := .tmp 32) rfl rfl r45 ?_
              have b45 : Below w5.heap.size w5 x45 := b44.grown q45 b44.size (fun g hg => (GOwn.ge a44 g hg).1)
              have z45 : Blk x45 (w5.heap.size + 2) 25 #[.int .i64 0, .slice none 0 0, .int .i64 0] := z44.app a44 q45
              have a45 : MOwn x45 w5.heap.size v45 t := by simpa using o45
              have n45 := GRd.keep n44 (SameAt.of_grown q45 (.inr (fun e => e36 e.symm)))
              have e45 : v45.ownBlock ≠ some w5.heap.size := by
                rcases y45 with y | y
                · rw [y]; exact e36
                · rw [y]; intro e; have h := Option.some.inj e; have h2 := GRd.blk n44; omega
              refine hK.out _ x45 (b45) (fun hHeld => ?_)
              clear hK K
              try simp only [Act.put, List.setIfInBounds_toArray, List.set_cons_zero, List.set_cons_succ]
              refine ready_one (i := 9) rfl (by kernel_rfl) (fun K hK => ?_)
              obtain ⟨v46, x46, r46, o46, q46, y46⟩ := run_app_row x45 w5.heap.size v45 t w5.heap.size 0 1 1 [(1, 0)] a45 n45 (by omega) (by simp) b45.size
              refine step_append (s := .tmp 33) (x := .tmp 35) rfl rfl r46 ?_
              have b46 : Below w5.heap.size w5 x46 := b45.grown q46 b45.size (fun g hg => (GOwn.ge a45 g hg).1)
              have z46 : Blk x46 (w5.heap.size + 2) 25 #[.int .i64 0, .slice none 0 0, .int .i64 0] := z45.app a45 q46
              have a46 : MOwn x46 w5.heap.size v46 (t ++ [(1, 0)]) := o46
              obtain ⟨A46, n46, c46, rfl⟩ := mform a46
              refine hK.out _ x46 (b46) (fun hHeld => ?_)
              clear hK K
              try simp only [Act.put, List.setIfInBounds_toArray, List.set_cons_zero, List.set_cons_succ]
              refine take_in (i := 13) (v := ?_) rfl (by kernel_rfl) (fun _ _ _ h => h) rfl ?_ hHeld ?_
              rotate_left
              · intro w' hSw; go_simp; all_goals with_reducible rfl
              try simp only [Act.put, List.setIfInBounds_toArray, List.set_cons_zero, List.set_cons_succ]
              refine ready_one (i := 15) rfl (by kernel_rfl) (fun K hK => ?_)
              obtain ⟨⟨z0, z1, z2⟩, f0, f1, f2⟩ := three_cells z46
              go_simp
              have k47 := (((b46.setCell (p := ⟨w5.heap.size + 2, 0, none⟩) h44 (.int .i64 ns)).setCell (p := ⟨w5.heap.size + 2, 1, none⟩) h44 (.slice A46 n46 c46)).setCell (p := ⟨w5.heap.size + 2, 2, none⟩) h44 (.int .i64 np))
              have zz1 := z46.set_ 0 (.int .i64 ns)
              have zz2 := zz1.set_ 1 (.slice A46 n46 c46)
              have z47 : Blk ((((x46).setCell ⟨w5.heap.size + 2, 0, none⟩ (.int .i64 ns)).setCell ⟨w5.heap.size + 2, 1, none⟩ (.slice A46 n46 c46)).setCell ⟨w5.heap.size + 2, 2, none⟩ (.int .i64 np)) (w5.heap.size + 2) 25 #[.int .i64 ns, (.slice A46 n46 c46), .int .i64 np] := zz2.set_ 2 (.int .i64 np)
              have o47 : MOwn ((((x46).setCell ⟨w5.heap.size + 2, 0, none⟩ (.int .i64 ns)).setCell ⟨w5.heap.size + 2, 1, none⟩ (.slice A46 n46 c46)).setCell ⟨w5.heap.size + 2, 2, none⟩ (.int .i64 np)) w5.heap.size (.slice A46 n46 c46) (t ++ [(1, 0)]) := ((MOwn.stay a46 (Stay.set_w z46 _)).stay (Stay.set_w zz1 _)).stay (Stay.set_w zz2 _)
              refine hK.out _ ((((x46).setCell ⟨w5.heap.size + 2, 0, none⟩ (.int .i64 ns)).setCell ⟨w5.heap.size + 2, 1, none⟩ (.slice A46 n46 c46)).setCell ⟨w5.heap.size + 2, 2, none⟩ (.int .i64 np)) (k47) (fun hHeld => ?_)
              clear hK K
              try simp only [Act.put, List.setIfInBounds_toArray, List.set_cons_zero, List.set_cons_succ]
              refine wpAnyH_done (by kernel_rfl) ?_ _
              go_wp2
              go_meet
              exact ⟨w5.heap.size + 2, _, rfl, Lib.hid ⟨z47, o47, k47⟩⟩
          · go_simp
            have b48 := b35.alloc b35.size (.cells #[.int .i64 0, .slice none 0 0, .int .i64 0] 25)
            have n48 := GRd.keep n35 (SameAt.of_below ((Below.refl _ (w5.drew.alloc (.cells #[.int .i64 1, .int .i64 0] 34))).alloc (Nat.le_refl _) (.cells #[.int .i64 0, .slice none 0 0, .int .i64 0] 25)))
            have z48 : Blk ((w5.drew.alloc (.cells #[.int .i64 1, .int .i64 0] 34)).alloc (.cells #[.int .i64 0, .slice none 0 0, .int .i64 0] 25)) (w5.heap.size + 1) 25 #[.int .i64 0, .slice none 0 0, .int .i64 0] := by have h : Blk ((w5.drew.alloc (.cells #[.int .i64 1, .int .i64 0] 34)).alloc (.cells #[.int .i64 0, .slice none 0 0, .int .i64 0] 25)) (w5.drew.alloc (.cells #[.int .i64 1, .int .i64 0] 34)).heap.size 25 #[.int .i64 0, .slice none 0 0, .int .i64 0] := heap_alloc_new (w5.drew.alloc (.cells #[.int .i64 1, .int .i64 0] 34)) _; rwa [show (w5.drew.alloc (.cells #[.int .i64 1, .int .i64 0] 34)).heap.size = w5.heap.size + 1 by simp] at h
            have h48 : w5.heap.size ≤ w5.heap.size + 1 := by have h := b35.size; first | omega | (simp at h; omega) | (simp at h)
            refine hK.out _ ((w5.drew.alloc (.cells #[.int .i64 1, .int .i64 0] 34)).alloc (.cells #[.int .i64 0, .slice none 0 0, .int .i64 0] 25)) (b48) (fun hHeld => ?_)
            clear hK K
            try simp only [Act.put, List.setIfInBounds_toArray, List.set_cons_zero, List.set_cons_succ]
            refine ready_one (i := 3) rfl (by kernel_rfl) (fun K hK => ?_)
            go_simp
            have b49 := b48.alloc b48.size (.cells #[] 34)
            have n49 := GRd.keep n48 (SameAt.of_below ((Below.refl _ ((w5.drew.alloc (.cells #[.int .i64 1, .int .i64 0] 34)).alloc (.cells #[.int .i64 0, .slice none 0 0, .int .i64 0] 25))).alloc (Nat.le_refl _) (.cells #[] 34)))
            have z49 : Blk (((w5.drew.alloc (.cells #[.int .i64 1, .int .i64 0] 34)).alloc (.cells #[.int .i64 0, .slice none 0 0, .int .i64 0] 25)).alloc (.cells #[] 34)) (w5.heap.size + 1) 25 #[.int .i64 0, .slice none 0 0, .int .i64 0] := (Below.heap_alloc ((w5.drew.alloc (.cells #[.int .i64 1, .int .i64 0] 34)).alloc (.cells #[.int .i64 0, .slice none 0 0, .int .i64 0] 25)) _ _ z48.lt).trans z48
            have a49 : MOwn (((w5.drew.alloc (.cells #[.int .i64 1, .int .i64 0] 34)).alloc (.cells #[.int .i64 0, .slice none 0 0, .int .i64 0] 25)).alloc (.cells #[] 34)) w5.heap.size (.slice (some ⟨w5.heap.size + 2, 0, none⟩) 0 0) [] := by have h := mlit0 ((w5.drew.alloc (.cells #[.int .i64 1, .int .i64 0] 34)).alloc (.cells #[.int .i64 0, .slice none 0 0, .int .i64 0] 25)) w5.heap.size b48.size; rwa [show ((w5.drew.alloc (.cells #[.int .i64 1, .int .i64 0] 34)).alloc (.cells #[.int .i64 0, .slice none 0 0, .int .i64 0] 25)).heap.size = w5.heap.size + 2 by simp] at h
            have e49 : (Value.slice (some ⟨w5.heap.size + 2, 0, none⟩) 0 0).ownBlock ≠ some w5.heap.size := by intro e; have h : w5.heap.size + 2 = w5.heap.size := Option.some.inj e; have h2 := GRd.blk n48; omega
            refine hK.out _ (((w5.drew.alloc (.cells #[.int .i64 1, .int .i64 0] 34)).alloc (.cells #[.int .i64 0, .slice none 0 0, .int .i64 0] 25)).alloc (.cells #[] 34)) (b49) (fun hHeld => ?_)
            clear hK K
            try simp only [Act.put, List.setIfInBounds_toArray, List.set_cons_zero, List.set_cons_succ]
            refine ready_one (i := 6) rfl (by kernel_rfl) (fun K hK => ?_)
            obtain ⟨v50, x50, r50, o50, q50, y50⟩ := run_app_row (((w5.drew.alloc (.cells #[.int .i64 1, .int .i64 0] 34)).alloc (.cells #[.int .i64 0, .slice none 0 0, .int .i64 0] 25)).alloc (.cells #[] 34)) w5.heap.size (.slice (some ⟨w5.heap.size + 2, 0, none⟩) 0 0) [] g 0 t.length c t a49 (HV.out _ b49) (by simp) (by omega) b49.size
            refine step_append (s := .tmp 30) (x := .tmp 32) rfl rfl r50 ?_
            have b50 : Below w5.heap.size w5 x50 := b49.grown q50 b49.size (fun g hg => (GOwn.ge a49 g hg).1)
            have z50 : Blk x50 (w5.heap.size + 1) 25 #[.int .i64 0, .slice none 0 0, .int .i64 0] := z49.app a49 q50
            have a50 : MOwn x50 w5.heap.size v50 t := by simpa using o50
            have n50 := GRd.keep n49 (SameAt.of_grown q50 (.inr (fun e => e49 e.symm)))
            have e50 : v50.ownBlock ≠ some w5.heap.size := by
              rcases y50 with y | y
              · rw [y]; exact e49
              · rw [y]; intro e; have h := Option.some.inj e; have h2 := GRd.blk n49; omega
            refine hK.out _ x50 (b50) (fun hHeld => ?_)
            clear hK K
            try simp only [Act.put, List.setIfInBounds_toArray, List.set_cons_zero, List.set_cons_succ]
            refine ready_one (i := 9) rfl (by kernel_rfl) (fun K hK => ?_)
            obtain ⟨v51, x51, r51, o51, q51, y51⟩ := run_app_row x50 w5.heap.size v50 t w5.heap.size 0 1 1 [(1, 0)] a50 n50 (by omega) (by simp) b50.size
            refine step_append (s := .tmp 33) (x := .tmp 35) rfl rfl r51 ?_
            have b51 : Below w5.heap.size w5 x51 := b50.grown q51 b50.size (fun g hg => (GOwn.ge a50 g hg).1)
            have z51 : Blk x51 (w5.heap.size + 1) 25 #[.int .i64 0, .slice none 0 0, .int .i64 0] := z50.app a50 q51
            have a51 : MOwn x51 w5.heap.size v51 (t ++ [(1, 0)]) := o51
            obtain ⟨A51, n51, c51, rfl⟩ := mform a51
            refine hK.out _ x51 (b51) (fun hHeld => ?_)
            clear hK K
            try simp only [Act.put, List.setIfInBounds_toArray, List.set_cons_zero, List.set_cons_succ]
            refine take_in (i := 13) (v := ?_) rfl (by kernel_rfl) (fun _ _ _ h => h) rfl ?_ hHeld ?_
            rotate_left
            · intro w' hSw; go_simp; all_goals with_reducible rfl
            try simp only [Act.put, List.setIfInBounds_toArray, List.set_cons_zero, List.set_cons_succ]
            refine ready_one (i := 15) rfl (by kernel_rfl) (fun K hK => ?_)
            obtain ⟨⟨z0, z1, z2⟩, f0, f1, f2⟩ := three_cells z51
            go_simp
            have k52 := (((b51.setCell (p := ⟨w5.heap.size + 1, 0, none⟩) h48 (.int .i64 ns)).setCell (p := ⟨w5.heap.size + 1, 1, none⟩) h48 (.slice A51 n51 c51)).setCell (p := ⟨w5.heap.size + 1, 2, none⟩) h48 (.int .i64 np))
            have zz1 := z51.set_ 0 (.int .i64 ns)
            have zz2 := zz1.set_ 1 (.slice A51 n51 c51)
            have z52 : Blk ((((x51).setCell ⟨w5.heap.size + 1, 0, none⟩ (.int .i64 ns)).setCell ⟨w5.heap.size + 1, 1, none⟩ (.slice A51 n51 c51)).setCell ⟨w5.heap.size + 1, 2, none⟩ (.int .i64 np)) (w5.heap.size + 1) 25 #[.int .i64 ns, (.slice A51 n51 c51), .int .i64 np] := zz2.set_ 2 (.int .i64 np)
            have o52 : MOwn ((((x51).setCell ⟨w5.heap.size + 1, 0, none⟩ (.int .i64 ns)).setCell ⟨w5.heap.size + 1, 1, none⟩ (.slice A51 n51 c51)).setCell ⟨w5.heap.size + 1, 2, none⟩ (.int .i64 np)) w5.heap.size (.slice A51 n51 c51) (t ++ [(1, 0)]) := ((MOwn.stay a51 (Stay.set_w z51 _)).stay (Stay.set_w zz1 _)).stay (Stay.set_w zz2 _)
            refine hK.out _ ((((x51).setCell ⟨w5.heap.size + 1, 0, none⟩ (.int .i64 ns)).setCell ⟨w5.heap.size + 1, 1, none⟩ (.slice A51 n51 c51)).setCell ⟨w5.heap.size + 1, 2, none⟩ (.int .i64 np)) (k52) (fun hHeld => ?_)
            clear hK K
            try simp only [Act.put, List.setIfInBounds_toArray, List.set_cons_zero, List.set_cons_succ]
            refine wpAnyH_done (by kernel_rfl) ?_ _
            go_wp2
            go_meet
            exact ⟨w5.heap.size + 1, _, rfl, Lib.hid ⟨z52, o52, k52⟩⟩
        · go_simp
          have b53 := k0.alloc k0.size (.cells #[.int .i64 0, .slice none 0 0, .int .i64 0] 25)
          have z53 : Blk (w5.drew.alloc (.cells #[.int .i64 0, .slice none 0 0, .int .i64 0] 25)) w5.heap.size 25 #[.int .i64 0, .slice none 0 0, .int .i64 0] := by have h : Blk (w5.drew.alloc (.cells #[.int .i64 0, .slice none 0 0, .int .i64 0] 25)) w5.drew.heap.size 25 #[.int .i64 0, .slice none 0 0, .int .i64 0] := heap_alloc_new w5.drew _; exact h
          have h53 : w5.heap.size ≤ w5.heap.size := by have h := k0.size; first | omega | (simp at h; omega) | (simp at h)
          refine hK.out _ (w5.drew.alloc (.cells #[.int .i64 0, .slice none 0 0, .int .i64 0] 25)) (b53) (fun hHeld => ?_)
          clear hK K
          try simp only [Act.put, List.setIfInBounds_toArray, List.set_cons_zero, List.set_cons_succ]
          refine ready_two (i := 3) (j := 8) rfl rfl (by kernel_rfl) (fun K hK => ?_) (fun K hK => ?_)
          · go_simp
            have b54 := b53.alloc b53.size (.cells #[] 34)
            have z54 : Blk ((w5.drew.alloc (.cells #[.int .i64 0, .slice none 0 0, .int .i64 0] 25)).alloc (.cells #[] 34)) w5.heap.size 25 #[.int .i64 0, .slice none 0 0, .int .i64 0] := (Below.heap_alloc (w5.drew.alloc (.cells #[.int .i64 0, .slice none 0 0, .int .i64 0] 25)) _ _ z53.lt).trans z53
            have a54 : MOwn ((w5.drew.alloc (.cells #[.int .i64 0, .slice none 0 0, .int .i64 0] 25)).alloc (.cells #[] 34)) w5.heap.size (.slice (some ⟨w5.heap.size + 1, 0, none⟩) 0 0) [] := by have h := mlit0 (w5.drew.alloc (.cells #[.int .i64 0, .slice none 0 0, .int .i64 0] 25)) w5.heap.size b53.size; rwa [show (w5.drew.alloc (.cells #[.int .i64 0, .slice none 0 0, .int .i64 0] 25)).heap.size = w5.heap.size + 1 by simp] at h
            refine hK.out _ ((w5.drew.alloc (.cells #[.int .i64 0, .slice none 0 0, .int .i64 0] 25)).alloc (.cells #[] 34)) (b54) (fun hHeld => ?_)
            clear hK K
            try simp only [Act.put, List.setIfInBounds_toArray, List.set_cons_zero, List.set_cons_succ]
            refine ready_two (i := 6) (j := 8) rfl rfl (by kernel_rfl) (fun K hK => ?_) (fun K hK => ?_)
            · obtain ⟨v55, x55, r55, o55, q55, y55⟩ := run_app_row ((w5.drew.alloc (.cells #[.int .i64 0, .slice none 0 0, .int .i64 0] 25)).alloc (.cells #[] 34)) w5.heap.size (.slice (some ⟨w5.heap.size + 1, 0, none⟩) 0 0) [] g 0 t.length c t a54 (HV.out _ b54) (by simp) (by omega) b54.size
              refine step_append (s := .tmp 30) (x := .tmp 32) rfl rfl r55 ?_
              have b55 : Below w5.heap.size w5 x55 := b54.grown q55 b54.size (fun g hg => (GOwn.ge a54 g hg).1)
              have z55 : Blk x55 w5.heap.size 25 #[.int .i64 0, .slice none 0 0, .int .i64 0] := z54.app a54 q55
              have a55 : MOwn x55 w5.heap.size v55 t := by simpa using o55
              refine hK.out _ x55 (b55) (fun hHeld => ?_)
              clear hK K
              try simp only [Act.put, List.setIfInBounds_toArray, List.set_cons_zero, List.set_cons_succ]
              refine ready_one (i := 8) rfl (by kernel_rfl) (fun K hK => ?_)
              go_simp
              have b56 := b55.alloc b55.size (.cells #[.int .i64 1, .int .i64 0] 34)
              have a56 := MOwn.allocd a55 (.cells #[.int .i64 1, .int .i64 0] 34)
              have z56 : Blk (x55.alloc (.cells #[.int .i64 1, .int .i64 0] 34)) w5.heap.size 25 #[.int .i64 0, .slice none 0 0, .int .i64 0] := (Below.heap_alloc x55 _ _ z55.lt).trans z55
              have n56 : QRd (x55.alloc (.cells #[.int .i64 1, .int .i64 0] 34)) (.slice (some ⟨x55.heap.size, 0, none⟩) 1 1) [(1, 0)] := by have h := GOwn.rd qC_len (mlit1 x55 w5.heap.size b55.size 1 0); exact h
              have e56 : v55.ownBlock ≠ some x55.heap.size := fun e => by have h := (GOwn.ge a55 _ e).2; first | omega | (simp at h; omega) | (simp at h)
              refine hK.out _ (x55.alloc (.cells #[.int .i64 1, .int .i64 0] 34)) (b56) (fun hHeld => ?_)
              clear hK K
              try simp only [Act.put, List.setIfInBounds_toArray, List.set_cons_zero, List.set_cons_succ]
              refine ready_one (i := 9) rfl (by kernel_rfl) (fun K hK => ?_)
              obtain ⟨v57, x57, r57, o57, q57, y57⟩ := run_app_row (x55.alloc (.cells #[.int .i64 1, .int .i64 0] 34)) w5.heap.size v55 t x55.heap.size 0 1 1 [(1, 0)] a56 n56 (by omega) (by simp) b56.size
              refine step_append (s := .tmp 33) (x := .tmp 35) rfl rfl r57 ?_
              have b57 : Below w5.heap.size w5 x57 := b56.grown q57 b56.size (fun g hg => (GOwn.ge a56 g hg).1)
              have z57 : Blk x57 w5.heap.size 25 #[.int .i64 0, .slice none 0 0, .int .i64 0] := z56.app a56 q57
              have a57 : MOwn x57 w5.heap.size v57 (t ++ [(1, 0)]) := o57
              obtain ⟨A57, n57, c57, rfl⟩ := mform a57
              refine hK.out _ x57 (b57) (fun hHeld => ?_)
              clear hK K
              try simp only [Act.put, List.setIfInBounds_toArray, List.set_cons_zero, List.set_cons_succ]
              refine take_in (i := 13) (v := ?_) rfl (by kernel_rfl) (fun _ _ _ h => h) rfl ?_ hHeld ?_
              rotate_left
              · intro w' hSw; go_simp; all_goals with_reducible rfl
              try simp only [Act.put, List.setIfInBounds_toArray, List.set_cons_zero, List.set_cons_succ]
              refine ready_one (i := 15) rfl (by kernel_rfl) (fun K hK => ?_)
              obtain ⟨⟨z0, z1, z2⟩, f0, f1, f2⟩ := three_cells z57
              go_simp
              have k58 := (((b57.setCell (p := ⟨w5.heap.size, 0, none⟩) h53 (.int .i64 ns)).setCell (p := ⟨w5.heap.size, 1, none⟩) h53 (.slice A57 n57 c57)).setCell (p := ⟨w5.heap.size, 2, none⟩) h53 (.int .i64 np))
              have zz1 := z57.set_ 0 (.int .i64 ns)
              have zz2 := zz1.set_ 1 (.slice A57 n57 c57)
              have z58 : Blk ((((x57).setCell ⟨w5.heap.size, 0, none⟩ (.int .i64 ns)).setCell ⟨w5.heap.size, 1, none⟩ (.slice A57 n57 c57)).setCell ⟨w5.heap.size, 2, none⟩ (.int .i64 np)) w5.heap.size 25 #[.int .i64 ns, (.slice A57 n57 c57), .int .i64 np] := zz2.set_ 2 (.int .i64 np)
              have o58 : MOwn ((((x57).setCell ⟨w5.heap.size, 0, none⟩ (.int .i64 ns)).setCell ⟨w5.heap.size, 1, none⟩ (.slice A57 n57 c57)).setCell ⟨w5.heap.size, 2, none⟩ (.int .i64 np)) w5.heap.size (.slice A57 n57 c57) (t ++ [(1, 0)]) := ((MOwn.stay a57 (Stay.set_w z57 _)).stay (Stay.set_w zz1 _)).stay (Stay.set_w zz2 _)
              refine hK.out _ ((((x57).setCell ⟨w5.heap.size, 0, none⟩ (.int .i64 ns)).setCell ⟨w5.heap.size, 1, none⟩ (.slice A57 n57 c57)).setCell ⟨w5.heap.size, 2, none⟩ (.int .i64 np)) (k58) (fun hHeld => ?_)
              clear hK K
              try simp only [Act.put, List.setIfInBounds_toArray, List.set_cons_zero, List.set_cons_succ]
              refine wpAnyH_done (by kernel_rfl) ?_ _
              go_wp2
              go_meet
              exact ⟨w5.heap.size, _, rfl, Lib.hid ⟨z58, o58, k58⟩⟩
            · go_simp
              have b59 := b54.alloc b54.size (.cells #[.int .i64 1, .int .i64 0] 34)
              have a59 := MOwn.allocd a54 (.cells #[.int .i64 1, .int .i64 0] 34)
              have z59 : Blk (((w5.drew.alloc (.cells #[.int .i64 0, .slice none 0 0, .int .i64 0] 25)).alloc (.cells #[] 34)).alloc (.cells #[.int .i64 1, .int .i64 0] 34)) w5.heap.size 25 #[.int .i64 0, .slice none 0 0, .int .i64 0] := (Below.heap_alloc ((w5.drew.alloc (.cells #[.int .i64 0, .slice none 0 0, .int .i64 0] 25)).alloc (.cells #[] 34)) _ _ z54.lt).trans z54
              have n59 : QRd (((w5.drew.alloc (.cells #[.int .i64 0, .slice none 0 0, .int .i64 0] 25)).alloc (.cells #[] 34)).alloc (.cells #[.int .i64 1, .int .i64 0] 34)) (.slice (some ⟨w5.heap.size + 2, 0, none⟩) 1 1) [(1, 0)] := by have h := GOwn.rd qC_len (mlit1 ((w5.drew.alloc (.cells #[.int .i64 0, .slice none 0 0, .int .i64 0] 25)).alloc (.cells #[] 34)) w5.heap.size b54.size 1 0); rwa [show ((w5.drew.alloc (.cells #[.int .i64 0, .slice none 0 0, .int .i64 0] 25)).alloc (.cells #[] 34)).heap.size = w5.heap.size + 2 by simp] at h
              have e59 : (Value.slice (some ⟨w5.heap.size + 1, 0, none⟩) 0 0).ownBlock ≠ some (w5.heap.size + 2) := fun e => by have h := (GOwn.ge a54 _ e).2; first | omega | (simp at h; omega) | (simp at h)
              refine hK.out _ (((w5.drew.alloc (.cells #[.int .i64 0, .slice none 0 0, .int .i64 0] 25)).alloc (.cells #[] 34)).alloc (.cells #[.int .i64 1, .int .i64 0] 34)) (b59) (fun hHeld => ?_)
              clear hK K
              try simp only [Act.put, List.setIfInBounds_toArray, List.set_cons_zero, List.set_cons_succ]
              refine ready_one (i := 6) rfl (by kernel_rfl) (fun K hK => ?_)
              obtain ⟨v60, x60, r60, o60, q60, y60⟩ := run_app_row (((w5.drew.alloc (.cells #[.int .i64 0, .slice none 0 0, .int .i64 0] 25)).alloc (.cells #[] 34)).alloc (.cells #[.int .i64 1, .int .i64 0] 34)) w5.heap.size (.slice (some ⟨w5.heap.size + 1, 0, none⟩) 0 0) [] g 0 t.length c t a59 (HV.out _ b59) (by simp) (by omega) b59.size
              refine step_append (s := .tmp 30) (x := .tmp 32) rfl rfl r60 ?_
              have b60 : Below w5.heap.size w5 x60 := b59.grown q60 b59.size (fun g hg => (GOwn.ge a59 g hg).1)
              have z60 : Blk x60 w5.heap.size 25 #[.int .i64 0, .slice none 0 0, .int .i64 0] := z59.app a59 q60
              have a60 : MOwn x60 w5.heap.size v60 t := by simpa using o60
              have n60 := GRd.keep n59 (SameAt.of_grown q60 (.inr (fun e => e59 e.symm)))
              have e60 : v60.ownBlock ≠ some (w5.heap.size + 2) := by
                rcases y60 with y | y
                · rw [y]; exact e59
                · rw [y]; intro e; have h := Option.some.inj e; have h2 := GRd.blk n59; omega
              refine hK.out _ x60 (b60) (fun hHeld => ?_)
              clear hK K
              try simp only [Act.put, List.setIfInBounds_toArray, List.set_cons_zero, List.set_cons_succ]
              refine ready_one (i := 9) rfl (by kernel_rfl) (fun K hK => ?_)
              obtain ⟨v61, x61, r61, o61, q61, y61⟩ := run_app_row x60 w5.heap.size v60 t (w5.heap.size + 2) 0 1 1 [(1, 0)] a60 n60 (by omega) (by simp) b60.size
              refine step_append (s := .tmp 33) (x := .tmp 35) rfl rfl r61 ?_
              have b61 : Below w5.heap.size w5 x61 := b60.grown q61 b60.size (fun g hg => (GOwn.ge a60 g hg).1)
              have z61 : Blk x61 w5.heap.size 25 #[.int .i64 0, .slice none 0 0, .int .i64 0] := z60.app a60 q61
              have a61 : MOwn x61 w5.heap.size v61 (t ++ [(1, 0)]) := o61
              obtain ⟨A61, n61, c61, rfl⟩ := mform a61
              refine hK.out _ x61 (b61) (fun hHeld => ?_)
              clear hK K
              try simp only [Act.put, List.setIfInBounds_toArray, List.set_cons_zero, List.set_cons_succ]
              refine take_in (i := 13) (v := ?_) rfl (by kernel_rfl) (fun _ _ _ h => h) rfl ?_ hHeld ?_
              rotate_left
              · intro w' hSw; go_simp; all_goals with_reducible rfl
              try simp only [Act.put, List.setIfInBounds_toArray, List.set_cons_zero, List.set_cons_succ]
              refine ready_one (i := 15) rfl (by kernel_rfl) (fun K hK => ?_)
              obtain ⟨⟨z0, z1, z2⟩, f0, f1, f2⟩ := three_cells z61
              go_simp
              have k62 := (((b61.setCell (p := ⟨w5.heap.size, 0, none⟩) h53 (.int .i64 ns)).setCell (p := ⟨w5.heap.size, 1, none⟩) h53 (.slice A61 n61 c61)).setCell (p := ⟨w5.heap.size, 2, none⟩) h53 (.int .i64 np))
              have zz1 := z61.set_ 0 (.int .i64 ns)
              have zz2 := zz1.set_ 1 (.slice A61 n61 c61)
              have z62 : Blk ((((x61).setCell ⟨w5.heap.size, 0, none⟩ (.int .i64 ns)).setCell ⟨w5.heap.size, 1, none⟩ (.slice A61 n61 c61)).setCell ⟨w5.heap.size, 2, none⟩ (.int .i64 np)) w5.heap.size 25 #[.int .i64 ns, (.slice A61 n61 c61), .int .i64 np] := zz2.set_ 2 (.int .i64 np)
              have o62 : MOwn ((((x61).setCell ⟨w5.heap.size, 0, none⟩ (.int .i64 ns)).setCell ⟨w5.heap.size, 1, none⟩ (.slice A61 n61 c61)).setCell ⟨w5.heap.size, 2, none⟩ (.int .i64 np)) w5.heap.size (.slice A61 n61 c61) (t ++ [(1, 0)]) := ((MOwn.stay a61 (Stay.set_w z61 _)).stay (Stay.set_w zz1 _)).stay (Stay.set_w zz2 _)
              refine hK.out _ ((((x61).setCell ⟨w5.heap.size, 0, none⟩ (.int .i64 ns)).setCell ⟨w5.heap.size, 1, none⟩ (.slice A61 n61 c61)).setCell ⟨w5.heap.size, 2, none⟩ (.int .i64 np)) (k62) (fun hHeld => ?_)
              clear hK K
              try simp only [Act.put, List.setIfInBounds_toArray, List.set_cons_zero, List.set_cons_succ]
              refine wpAnyH_done (by kernel_rfl) ?_ _
              go_wp2
              go_meet
              exact ⟨w5.heap.size, _, rfl, Lib.hid ⟨z62, o62, k62⟩⟩
          · go_simp
            have b63 := b53.alloc b53.size (.cells #[.int .i64 1, .int .i64 0] 34)
            have z63 : Blk ((w5.drew.alloc (.cells #[.int .i64 0, .slice none 0 0, .int .i64 0] 25)).alloc (.cells #[.int .i64 1, .int .i64 0] 34)) w5.heap.size 25 #[.int .i64 0, .slice none 0 0, .int .i64 0] := (Below.heap_alloc (w5.drew.alloc (.cells #[.int .i64 0, .slice none 0 0, .int .i64 0] 25)) _ _ z53.lt).trans z53
            have n63 : QRd ((w5.drew.alloc (.cells #[.int .i64 0, .slice none 0 0, .int .i64 0] 25)).alloc (.cells #[.int .i64 1, .int .i64 0] 34)) (.slice (some ⟨w5.heap.size + 1, 0, none⟩) 1 1) [(1, 0)] := by have h := GOwn.rd qC_len (mlit1 (w5.drew.alloc (.cells #[.int .i64 0, .slice none 0 0, .int .i64 0] 25)) w5.heap.size b53.size 1 0); rwa [show (w5.drew.alloc (.cells #[.int .i64 0, .slice none 0 0, .int .i64 0] 25)).heap.size = w5.heap.size + 1 by simp] at h
            refine hK.out _ ((w5.drew.alloc (.cells #[.int .i64 0, .slice none 0 0, .int .i64 0] 25)).alloc (.cells #[.int .i64 1, .int .i64 0] 34)) (b63) (fun hHeld => ?_)
            clear hK K
            try simp only [Act.put, List.setIfInBounds_toArray, List.set_cons_zero, List.set_cons_succ]
            refine ready_one (i := 3) rfl (by kernel_rfl) (fun K hK => ?_)
            go_simp
            have b64 := b63.alloc b63.size (.cells #[] 34)
            have n64 := GRd.keep n63 (SameAt.of_below ((Below.refl _ ((w5.drew.alloc (.cells #[.int .i64 0, .slice none 0 0, .int .i64 0] 25)).alloc (.cells #[.int .i64 1, .int .i64 0] 34))).alloc (Nat.le_refl _) (.cells #[] 34)))
            have z64 : Blk (((w5.drew.alloc (.cells #[.int .i64 0, .slice none 0 0, .int .i64 0] 25)).alloc (.cells #[.int .i64 1, .int .i64 0] 34)).alloc (.cells #[] 34)) w5.heap.size 25 #[.int .i64 0, .slice none 0 0, .int .i64 0] := (Below.heap_alloc ((w5.drew.alloc (.cells #[.int .i64 0, .slice none 0 0, .int .i64 0] 25)).alloc (.cells #[.int .i64 1, .int .i64 0] 34)) _ _ z63.lt).trans z63
            have a64 : MOwn (((w5.drew.alloc (.cells #[.int .i64 0, .slice none 0 0, .int .i64 0] 25)).alloc (.cells #[.int .i64 1, .int .i64 0] 34)).alloc (.cells #[] 34)) w5.heap.size (.slice (some ⟨w5.heap.size + 2, 0, none⟩) 0 0) [] := by have h := mlit0 ((w5.drew.alloc (.cells #[.int .i64 0, .slice none 0 0, .int .i64 0] 25)).alloc (.cells #[.int .i64 1, .int .i64 0] 34)) w5.heap.size b63.size; rwa [show ((w5.drew.alloc (.cells #[.int .i64 0, .slice none 0 0, .int .i64 0] 25)).alloc (.cells #[.int .i64 1, .int .i64 0] 34)).heap.size = w5.heap.size + 2 by simp] at h
            have e64 : (Value.slice (some ⟨w5.heap.size + 2, 0, none⟩) 0 0).ownBlock ≠ some (w5.heap.size + 1) := by intro e; have h : w5.heap.size + 2 = w5.heap.size + 1 := Option.some.inj e; have h2 := GRd.blk n63; omega
            refine hK.out _ (((w5.drew.alloc (.cells #[.int .i64 0, .slice none 0 0, .int .i64 0] 25)).alloc (.cells #[.int .i64 1, .int .i64 0] 34)).alloc (.cells #[] 34)) (b64) (fun hHeld => ?_)
            clear hK K
            try simp only [Act.put, List.setIfInBounds_toArray, List.set_cons_zero, List.set_cons_succ]
            refine ready_one (i := 6) rfl (by kernel_rfl) (fun K hK => ?_)
            obtain ⟨v65, x65, r65, o65, q65, y65⟩ := run_app_row (((w5.drew.alloc (.cells #[.int .i64 0, .slice none 0 0, .int .i64 0] 25)).alloc (.cells #[.int .i64 1, .int .i64 0] 34)).alloc (.cells #[] 34)) w5.heap.size (.slice (some ⟨w5.heap.size + 2, 0, none⟩) 0 0) [] g 0 t.length c t a64 (HV.out _ b64) (by simp) (by omega) b64.size
            refine step_append (s := .tmp 30) (x := .tmp 32) rfl rfl r65 ?_
            have b65 : Below w5.heap.size w5 x65 := b64.grown q65 b64.size (fun g hg => (GOwn.ge a64 g hg).1)
            have z65 : Blk x65 w5.heap.size 25 #[.int .i64 0, .slice none 0 0, .int .i64 0] := z64.app a64 q65
            have a65 : MOwn x65 w5.heap.size v65 t := by simpa using o65
            have n65 := GRd.keep n64 (SameAt.of_grown q65 (.inr (fun e => e64 e.symm)))
            have e65 : v65.ownBlock ≠ some (w5.heap.size + 1) := by
              rcases y65 with y | y
              · rw [y]; exact e64
              · rw [y]; intro e; have h := Option.some.inj e; have h2 := GRd.blk n64; omega
            refine hK.out _ x65 (b65) (fun hHeld => ?_)
            clear hK K
            try simp only [Act.put, List.setIfInBounds_toArray, List.set_cons_zero, List.set_cons_succ]
            refine ready_one (i := 9) rfl (by kernel_rfl) (fun K hK => ?_)
            obtain ⟨v66, x66, r66, o66, q66, y66⟩ := run_app_row x65 w5.heap.size v65 t (w5.heap.size + 1) 0 1 1 [(1, 0)] a65 n65 (by omega) (by simp) b65.size
            refine step_append (s := .tmp 33) (x := .tmp 35) rfl rfl r66 ?_
            have b66 : Below w5.heap.size w5 x66 := b65.grown q66 b65.size (fun g hg => (GOwn.ge a65 g hg).1)
            have z66 : Blk x66 w5.heap.size 25 #[.int .i64 0, .slice none 0 0, .int .i64 0] := z65.app a65 q66
            have a66 : MOwn x66 w5.heap.size v66 (t ++ [(1, 0)]) := o66
            obtain ⟨A66, n66, c66, rfl⟩ := mform a66
            refine hK.out _ x66 (b66) (fun hHeld => ?_)
            clear hK K
            try simp only [Act.put, List.setIfInBounds_toArray, List.set_cons_zero, List.set_cons_succ]
            refine take_in (i := 13) (v := ?_) rfl (by kernel_rfl) (fun _ _ _ h => h) rfl ?_ hHeld ?_
            rotate_left
            · intro w' hSw; go_simp; all_goals with_reducible rfl
            try simp only [Act.put, List.setIfInBounds_toArray, List.set_cons_zero, List.set_cons_succ]
            refine ready_one (i := 15) rfl (by kernel_rfl) (fun K hK => ?_)
            obtain ⟨⟨z0, z1, z2⟩, f0, f1, f2⟩ := three_cells z66
            go_simp
            have k67 := (((b66.setCell (p := ⟨w5.heap.size, 0, none⟩) h53 (.int .i64 ns)).setCell (p := ⟨w5.heap.size, 1, none⟩) h53 (.slice A66 n66 c66)).setCell (p := ⟨w5.heap.size, 2, none⟩) h53 (.int .i64 np))
            have zz1 := z66.set_ 0 (.int .i64 ns)
            have zz2 := zz1.set_ 1 (.slice A66 n66 c66)
            have z67 : Blk ((((x66).setCell ⟨w5.heap.size, 0, none⟩ (.int .i64 ns)).setCell ⟨w5.heap.size, 1, none⟩ (.slice A66 n66 c66)).setCell ⟨w5.heap.size, 2, none⟩ (.int .i64 np)) w5.heap.size 25 #[.int .i64 ns, (.slice A66 n66 c66), .int .i64 np] := zz2.set_ 2 (.int .i64 np)
            have o67 : MOwn ((((x66).setCell ⟨w5.heap.size, 0, none⟩ (.int .i64 ns)).setCell ⟨w5.heap.size, 1, none⟩ (.slice A66 n66 c66)).setCell ⟨w5.heap.size, 2, none⟩ (.int .i64 np)) w5.heap.size (.slice A66 n66 c66) (t ++ [(1, 0)]) := ((MOwn.stay a66 (Stay.set_w z66 _)).stay (Stay.set_w zz1 _)).stay (Stay.set_w zz2 _)
            refine hK.out _ ((((x66).setCell ⟨w5.heap.size, 0, none⟩ (.int .i64 ns)).setCell ⟨w5.heap.size, 1, none⟩ (.slice A66 n66 c66)).setCell ⟨w5.heap.size, 2, none⟩ (.int .i64 np)) (k67) (fun hHeld => ?_)
            clear hK K
            try simp only [Act.put, List.setIfInBounds_toArray, List.set_cons_zero, List.set_cons_succ]
            refine wpAnyH_done (by kernel_rfl) ?_ _
            go_wp2
            go_meet
            exact ⟨w5.heap.size, _, rfl, Lib.hid ⟨z67, o67, k67⟩⟩
      case rest =>
        obtain ⟨b4, v4, rfl, H4⟩ := hcut
        obtain ⟨wd, hwd⟩ : ∃ wd, wd = wc := ⟨_, rfl⟩
        subst hwd
        obtain ⟨A4, n4, c4, rfl⟩ := mform H4.out.2.1
        have K6 : Hid (Below w.heap.size w wd ∧ IOwn wd w2.heap.size (.slice A3 4 c3) X) := Lib.hid ⟨(K5.out.1.below H4.out.2.2).1, K5.out.2.keep (SameAt.of_below H4.out.2.2)⟩
        clear HC HV K5 hw1 hw2
        obtain ⟨k2, hk2⟩ : ∃ k2, wgB ns (t ++ [(1, 0)]) np = k2 := ⟨_, rfl⟩
        have HK2 := Lib.hid hk2
        obtain ⟨⟨m0, m1, m2⟩, -⟩ := three_cells H4.out.1
        go_wp2_with fail
        refine (specWagerOk_any wd ns _ (t ++ [(1, 0)]) np (H4.out.2.1.rd qC_len)).mono ?_
        rintro e w7 ⟨rfl, b7⟩
        rw [hk2]
        clear hk2
        have K7 : Hid (Below w.heap.size w w7 ∧ IOwn w7 w2.heap.size (.slice A3 4 c3) X ∧ Blk w7 b4 25 #[.int .i64 ns, .slice A4 n4 c4, .int .i64 np] ∧ MOwn w7 w5.heap.size (.slice A4 n4 c4) (t ++ [(1, 0)])) := Lib.hid ⟨below_step K6.out.1 b7 K6.out.1.size, K6.out.2.keep (SameAt.of_below b7), (b7.block _ H4.out.1.lt).trans H4.out.1, H4.out.2.1.keep (SameAt.of_below b7)⟩
        clear b7 m0 m1 m2 K6 H4
        cases k2
        · go_wp2_with fail
          go_ret
          exact ⟨rfl, K7.out.1⟩
        · have HG := Lib.hid (gain_not HNS.out.1 HNS.out.2 HK.out HK2.out)
          obtain ⟨⟨m0, m1, m2⟩, -⟩ := three_cells K7.out.2.2.1
          go_wp2_with fail
          refine (implWagerGain_any w7 ns _ (t ++ [(1, 0)]) np (K7.out.2.2.2.rd qC_len)).mono ?_
          rintro e w8 ⟨v8, rfl, o8, b8⟩
          rw [HG.out, HX.out] at o8
          have K8 : Hid (Below w.heap.size w w8 ∧ IOwn w8 w2.heap.size (.slice A3 4 c3) X ∧ IOwn w8 w7.heap.size v8 X) := Lib.hid ⟨below_step K7.out.1 b8 K7.out.1.size, K7.out.2.1.keep (SameAt.of_below b8), o8⟩
          clear o8 b8 m0 m1 m2 K7
          go_wp2_with fail
          refine (sameInts_any w8 v8 _ X X K8.out.2.2.rd K8.out.2.1.rd).mono ?_
          rintro e w9 ⟨n9, rfl, hdr⟩
          have HB9 : Hid (Below w.heap.size w w9) := Lib.hid (by rw [hdr]; exact below_drewN K8.out.1 _)
          rw [show decide (X = X) = true from by simp]
          clear hdr
          go_wp2_with fail
          go_ret
          exact ⟨rfl, HB9.out⟩

end Go.Proofs.Ytfdlfgokoponmaa
