/- The walk of the law of SameBets. Conditions: stated. (gen_zv.py) -/
import Derived.Test.YtfdlfgokoponmaaZu
namespace Go.Proofs.Ytfdlfgokoponmaa
open Go.RowKit
set_option linter.unusedVariables false
set_option linter.unusedSimpArgs false

theorem irow_form {w : World} {v : Value} {xs : List Int} {k : Nat} (h : IRd w v xs) (hk : xs.length = k) : ∃ A c, v = .slice A k c := by
  obtain ⟨A, c, rfl, -⟩ := h
  exact ⟨A, c, by rw [hk]⟩

theorem wgR_len {s : Int} {t : List Mk} {p : Int} (h : wgB s t p = true) : (wgR s t p).length = 4 := by rw [wgR_yes h, gainL_len]; rfl

theorem sum_same {s : Int} {t : List Mk} {p : Int} (h : wgB s t p = true) : wgB s (sumTR (evI t)) p = true ∧ wgR s (sumTR (evI t)) p = wgR s t p := by
  obtain ⟨h1, h2, h3⟩ := (wgB_iff _ _ _).1 h
  obtain ⟨n, hn, he, -⟩ := ev_yes h2
  obtain ⟨-, k1, k2⟩ := sum_yes hn
  rw [he]
  have k3 : wgB s (sumTR (n : Int)) p = true := (wgB_iff _ _ _).2 ⟨h1, k1, h3⟩
  exact ⟨k3, by rw [wgR_yes k3, wgR_yes h, k2, he]⟩

set_option maxRecDepth 100000 in
set_option maxHeartbeats 16000000 in
theorem FnSameBets_walk (a0 : Option Addr) (len0 cap0 : Nat) (z0 : List Int) (w : World) (w0 : IsRowC .u8 w a0 len0 cap0 z0) :
    Calls Try.prog 5 #[.slice a0 len0 cap0] w fun e w' => e = .returned (.bool true) ∧ Below w.heap.size w w' := by
  by_cases hlen : 1048576 < len0
  · clear w0
    go_enter Try.func5, Try.ntmps5
    go_wp2
    go_ret
    exact ⟨rfl, Below.refl _ _⟩
  · have hlen' : decide (1048576 < len0) = false := by simpa using hlen
    go_enter Try.func5, Try.ntmps5
    go_wp2_with fail
    refine (drawWagerGain_any _ _ _ _ _ w0).mono ?_
    rintro e w1 ⟨s, g, c, t, p, rfl, o1, hlt, hs, hp, b1⟩
    clear hlen hlen' w0
    obtain ⟨w2, hw2⟩ : ∃ w2, w1.alloc (.cells #[.int .i64 s, .slice (some ⟨g, 0, none⟩) t.length c, .int .i64 p] 25) = w2 := ⟨_, rfl⟩
    have K2 : Hid (WK w w1.heap.size s (.slice (some ⟨g, 0, none⟩) t.length c) p t w2) := Lib.hid (by rw [← hw2]; exact ⟨b1.alloc b1.size _, heap_alloc_new w1 _, o1.keep (SameAt.of_below ((Below.refl _ w1).alloc (Nat.le_refl _) _))⟩)
    have HW2 := Lib.hid hw2
    clear o1 b1 hw2
    obtain ⟨k, hk⟩ : ∃ k, wgB s t p = k := ⟨_, rfl⟩
    have HK := Lib.hid hk
    go_upto_region 4 with fail
    rw [HW2.out]
    obtain ⟨⟨m0, m1, m2⟩, -⟩ := three_cells K2.out.2.1
    go_wp2_with fail
    refine (specWagerOk_any w2 s _ t p (K2.out.2.2.rd qC_len)).mono ?_
    rintro e w3 ⟨rfl, b3⟩
    rw [hk]
    clear hk
    have K3 := Lib.hid (K2.out.below b3)
    clear b3 m0 m1 m2 K2
    cases k
    · obtain ⟨⟨m0, m1, m2⟩, -⟩ := three_cells K3.out.2.1
      go_wp2_with fail
      refine (implWagerOk_any w3 s _ t p (K3.out.2.2.rd qC_len)).mono ?_
      rintro e w4 ⟨rfl, b4⟩
      rw [HK.out]
      have K4 := Lib.hid (K3.out.below b4)
      clear b4 m0 m1 m2
      go_wp2_with fail
      go_ret
      exact ⟨rfl, K4.out.1⟩
    · have HS := Lib.hid (sum_same HK.out)
      have HL := Lib.hid (wgR_len HK.out)
      obtain ⟨X, hX⟩ : ∃ X, wgR s t p = X := ⟨_, rfl⟩
      have HX := Lib.hid hX
      clear hX
      have HC : Hid (∀ wr, Below w3.heap.size w3 wr → Blk wr w1.heap.size 25 #[.int .i64 s, .slice (some ⟨g, 0, none⟩) t.length c, .int .i64 p]) := Lib.hid (fun wr hb => (hb.block _ K3.out.2.1.lt).trans K3.out.2.1)
      have HV : Hid (∀ wr, Below w3.heap.size w3 wr → QRd wr (.slice (some ⟨g, 0, none⟩) t.length c) t) := Lib.hid (fun wr hb => (K3.out.2.2.keep (SameAt.of_below hb)).rd qC_len)
      go_upto_region 6 with fail
      go_cut [4] (fun x wx => ∃ (b4 : Nat) (v4 : Value), x = .pointer (some ⟨b4, 0, none⟩) ∧ Hid (Blk wx b4 25 #[.int .i64 s, v4, .int .i64 p] ∧ MOwn wx w3.heap.size v4 (sumTR (evI t)) ∧ Below w3.heap.size w3 wx))
      case first =>
        have k0 : Below w3.heap.size w3 w3.drew := (Below.refl _ _).drew
        refine wp_region_held_drew (S := fun w' => Below w3.heap.size w3 w') (by kernel_rfl) k0 (fun hHeld => ?_)
        refine take_in (i := 0) (v := ?_) rfl (by kernel_rfl) (fun _ _ _ h => h) rfl ?_ hHeld ?_
        rotate_left
        · intro w' hSw; go_simp; all_goals with_reducible rfl
        try simp only [Act.put, List.setIfInBounds_toArray, List.set_cons_zero, List.set_cons_succ]
        refine take_in (i := 1) (v := ?_) rfl (by kernel_rfl) (fun _ _ _ h => h) rfl ?_ hHeld ?_
        rotate_left
        · intro w' hSw; obtain ⟨⟨m0, m1, m2⟩, -⟩ := three_cells (HC.out w' hSw); go_simp; all_goals with_reducible rfl
        try simp only [Act.put, List.setIfInBounds_toArray, List.set_cons_zero, List.set_cons_succ]
        refine take_in (i := 2) (v := ?_) rfl (by kernel_rfl) (fun _ _ _ h => h) rfl ?_ hHeld ?_
        rotate_left
        · intro w' hSw; go_simp; all_goals with_reducible rfl
        try simp only [Act.put, List.setIfInBounds_toArray, List.set_cons_zero, List.set_cons_succ]
        refine take_in (i := 3) (v := ?_) rfl (by kernel_rfl) (fun _ _ _ h => h) rfl ?_ hHeld ?_
        rotate_left
        · intro w' hSw; obtain ⟨⟨m0, m1, m2⟩, -⟩ := three_cells (HC.out w' hSw); go_simp; all_goals with_reducible rfl
        try simp only [Act.put, List.setIfInBounds_toArray, List.set_cons_zero, List.set_cons_succ]
        refine take_in (i := 6) (v := ?_) rfl (by kernel_rfl) (fun _ _ _ h => h) rfl ?_ hHeld ?_
        rotate_left
        · intro w' hSw; go_simp; all_goals with_reducible rfl
        try simp only [Act.put, List.setIfInBounds_toArray, List.set_cons_zero, List.set_cons_succ]
        refine take_in (i := 7) (v := ?_) rfl (by kernel_rfl) (fun _ _ _ h => h) rfl ?_ hHeld ?_
        rotate_left
        · intro w' hSw; obtain ⟨⟨m0, m1, m2⟩, -⟩ := three_cells (HC.out w' hSw); go_simp; all_goals with_reducible rfl
        try simp only [Act.put, List.setIfInBounds_toArray, List.set_cons_zero, List.set_cons_succ]
        refine ready_two (i := 4) (j := 9) rfl rfl (by kernel_rfl) (fun K hK => ?_) (fun K hK => ?_)
        · go_simp
          go_at_call 17
          refine (implEventOfTerm_any w3.drew _ t (HV.out _ k0)).mono ?_
          rintro e x1 ⟨rfl, b1⟩
          have k1 := below_step k0 b1 k0.size
          clear b1
          refine hK.out _ x1 (k1) (fun hHeld => ?_)
          clear hK K
          try simp only [Act.put, List.setIfInBounds_toArray, List.set_cons_zero, List.set_cons_succ]
          refine ready_two (i := 5) (j := 9) rfl rfl (by kernel_rfl) (fun K hK => ?_) (fun K hK => ?_)
          · go_simp
            go_at_call 16
            refine (implSumTerm_any x1 (evI t)).mono ?_
            rintro e x2 ⟨v2, rfl, o2, b2⟩
            have o2 := GOwn.base o2 k1.size
            obtain ⟨A2, n2, c2, rfl⟩ := mform o2
            have k2 := below_step k1 b2 k1.size
            clear b2
            refine hK.out _ x2 (k2) (fun hHeld => ?_)
            clear hK K
            try simp only [Act.put, List.setIfInBounds_toArray, List.set_cons_zero, List.set_cons_succ]
            refine take_in (i := 8) (v := ?_) rfl (by kernel_rfl) (fun _ _ _ h => h) rfl ?_ hHeld ?_
            rotate_left
            · intro w' hSw; go_simp; all_goals with_reducible rfl
            try simp only [Act.put, List.setIfInBounds_toArray, List.set_cons_zero, List.set_cons_succ]
            refine ready_one (i := 9) rfl (by kernel_rfl) (fun K hK => ?_)
            go_simp
            have k3 := k2.alloc k2.size (.cells #[.int .i64 0, .slice none 0 0, .int .i64 0] 25)
            have h3 : w3.heap.size ≤ x2.heap.size := k2.size
            have z3 : Blk (x2.alloc (.cells #[.int .i64 0, .slice none 0 0, .int .i64 0] 25)) x2.heap.size 25 #[.int .i64 0, .slice none 0 0, .int .i64 0] := heap_alloc_new x2 _
            have o3 := MOwn.allocd o2 (.cells #[.int .i64 0, .slice none 0 0, .int .i64 0] 25)
            refine hK.out _ (x2.alloc (.cells #[.int .i64 0, .slice none 0 0, .int .i64 0] 25)) (k3) (fun hHeld => ?_)
            clear hK K
            try simp only [Act.put, List.setIfInBounds_toArray, List.set_cons_zero, List.set_cons_succ]
            refine ready_one (i := 10) rfl (by kernel_rfl) (fun K hK => ?_)
            obtain ⟨⟨z0, z1, z2⟩, f0, f1, f2⟩ := three_cells z3
            go_simp
            have k4 := k2.alloc k2.size (.cells #[.int .i64 s, (.slice A2 n2 c2), .int .i64 p] 25)
            have z4 : Blk (x2.alloc (.cells #[.int .i64 s, (.slice A2 n2 c2), .int .i64 p] 25)) x2.heap.size 25 #[.int .i64 s, (.slice A2 n2 c2), .int .i64 p] := heap_alloc_new x2 _
            have o4 : MOwn (x2.alloc (.cells #[.int .i64 s, (.slice A2 n2 c2), .int .i64 p] 25)) w3.heap.size (.slice A2 n2 c2) (sumTR (evI t)) := MOwn.allocd o2 _
            refine hK.out _ (x2.alloc (.cells #[.int .i64 s, (.slice A2 n2 c2), .int .i64 p] 25)) (k4) (fun hHeld => ?_)
            clear hK K
            try simp only [Act.put, List.setIfInBounds_toArray, List.set_cons_zero, List.set_cons_succ]
            refine wpAnyH_done (by kernel_rfl) ?_ _
            go_wp2
            go_meet
            exact ⟨x2.heap.size, _, rfl, Lib.hid ⟨z4, o4, k4⟩⟩
          · go_simp
            have k5 := k1.alloc k1.size (.cells #[.int .i64 0, .slice none 0 0, .int .i64 0] 25)
            have h5 : w3.heap.size ≤ x1.heap.size := k1.size
            have z5 : Blk (x1.alloc (.cells #[.int .i64 0, .slice none 0 0, .int .i64 0] 25)) x1.heap.size 25 #[.int .i64 0, .slice none 0 0, .int .i64 0] := heap_alloc_new x1 _
            refine hK.out _ (x1.alloc (.cells #[.int .i64 0, .slice none 0 0, .int .i64 0] 25)) (k5) (fun hHeld => ?_)
            clear hK K
            try simp only [Act.put, List.setIfInBounds_toArray, List.set_cons_zero, List.set_cons_succ]
            refine ready_one (i := 5) rfl (by kernel_rfl) (fun K hK => ?_)
            go_simp
            go_at_call 16
            refine (implSumTerm_any (x1.alloc (.cells #[.int .i64 0, .slice none 0 0, .int .i64 0] 25)) (evI t)).mono ?_
            rintro e x6 ⟨v6, rfl, o6, b6⟩
            have o6 := GOwn.base o6 k5.size
            obtain ⟨A6, n6, c6, rfl⟩ := mform o6
            have k6 := below_step k5 b6 k5.size
            have z6 : Blk x6 x1.heap.size 25 #[.int .i64 0, .slice none 0 0, .int .i64 0] := (b6.block _ z5.lt).trans z5
            clear b6
            refine hK.out _ x6 (k6) (fun hHeld => ?_)
            clear hK K
            try simp only [Act.put, List.setIfInBounds_toArray, List.set_cons_zero, List.set_cons_succ]
            refine take_in (i := 8) (v := ?_) rfl (by kernel_rfl) (fun _ _ _ h => h) rfl ?_ hHeld ?_
            rotate_left
            · intro w' hSw; go_simp; all_goals with_reducible rfl
            try simp only [Act.put, List.setIfInBounds_toArray, List.set_cons_zero, List.set_cons_succ]
            refine ready_one (i := 10) rfl (by kernel_rfl) (fun K hK => ?_)
            obtain ⟨⟨z0, z1, z2⟩, f0, f1, f2⟩ := three_cells z6
            go_simp
            have k7 := (((k6.setCell (p := ⟨x1.heap.size, 0, none⟩) h5 (.int .i64 s)).setCell (p := ⟨x1.heap.size, 1, none⟩) h5 (.slice A6 n6 c6)).setCell (p := ⟨x1.heap.size, 2, none⟩) h5 (.int .i64 p))
            have zz1 := z6.set_ 0 (.int .i64 s)
            have zz2 := zz1.set_ 1 (.slice A6 n6 c6)
            have z7 : Blk ((((x6).setCell ⟨x1.heap.size, 0, none⟩ (.int .i64 s)).setCell ⟨x1.heap.size, 1, none⟩ (.slice A6 n6 c6)).setCell ⟨x1.heap.size, 2, none⟩ (.int .i64 p)) x1.heap.size 25 #[.int .i64 s, (.slice A6 n6 c6), .int .i64 p] := zz2.set_ 2 (.int .i64 p)
            have o7 : MOwn ((((x6).setCell ⟨x1.heap.size, 0, none⟩ (.int .i64 s)).setCell ⟨x1.heap.size, 1, none⟩ (.slice A6 n6 c6)).setCell ⟨x1.heap.size, 2, none⟩ (.int .i64 p)) w3.heap.size (.slice A6 n6 c6) (sumTR (evI t)) := ((MOwn.stay o6 (Stay.set_w z6 _)).stay (Stay.set_w zz1 _)).stay (Stay.set_w zz2 _)
            refine hK.out _ ((((x6).setCell ⟨x1.heap.size, 0, none⟩ (.int .i64 s)).setCell ⟨x1.heap.size, 1, none⟩ (.slice A6 n6 c6)).setCell ⟨x1.heap.size, 2, none⟩ (.int .i64 p)) (k7) (fun hHeld => ?_)
            clear hK K
            try simp only [Act.put, List.setIfInBounds_toArray, List.set_cons_zero, List.set_cons_succ]
            refine wpAnyH_done (by kernel_rfl) ?_ _
            go_wp2
            go_meet
            exact ⟨x1.heap.size, _, rfl, Lib.hid ⟨z7, o7, k7⟩⟩
        · go_simp
          have k8 := k0.alloc k0.size (.cells #[.int .i64 0, .slice none 0 0, .int .i64 0] 25)
          have h8 : w3.heap.size ≤ w3.heap.size := k0.size
          have z8 : Blk (w3.drew.alloc (.cells #[.int .i64 0, .slice none 0 0, .int .i64 0] 25)) w3.heap.size 25 #[.int .i64 0, .slice none 0 0, .int .i64 0] := heap_alloc_new w3.drew _
          refine hK.out _ (w3.drew.alloc (.cells #[.int .i64 0, .slice none 0 0, .int .i64 0] 25)) (k8) (fun hHeld => ?_)
          clear hK K
          try simp only [Act.put, List.setIfInBounds_toArray, List.set_cons_zero, List.set_cons_succ]
          refine ready_one (i := 4) rfl (by kernel_rfl) (fun K hK => ?_)
          go_simp
          go_at_call 17
          refine (implEventOfTerm_any (w3.drew.alloc (.cells #[.int .i64 0, .slice none 0 0, .int .i64 0] 25)) _ t (HV.out _ k8)).mono ?_
          rintro e x9 ⟨rfl, b9⟩
          have k9 := below_step k8 b9 k8.size
          have z9 : Blk x9 w3.heap.size 25 #[.int .i64 0, .slice none 0 0, .int .i64 0] := (b9.block _ z8.lt).trans z8
          clear b9
          refine hK.out _ x9 (k9) (fun hHeld => ?_)
          clear hK K
          try simp only [Act.put, List.setIfInBounds_toArray, List.set_cons_zero, List.set_cons_succ]
          refine ready_one (i := 5) rfl (by kernel_rfl) (fun K hK => ?_)
          go_simp
          go_at_call 16
          refine (implSumTerm_any x9 (evI t)).mono ?_
          rintro e x10 ⟨v10, rfl, o10, b10⟩
          have o10 := GOwn.base o10 k9.size
          obtain ⟨A10, n10, c10, rfl⟩ := mform o10
          have k10 := below_step k9 b10 k9.size
          have z10 : Blk x10 w3.heap.size 25 #[.int .i64 0, .slice none 0 0, .int .i64 0] := (b10.block _ z9.lt).trans z9
          clear b10
          refine hK.out _ x10 (k10) (fun hHeld => ?_)
          clear hK K
          try simp only [Act.put, List.setIfInBounds_toArray, List.set_cons_zero, List.set_cons_succ]
          refine take_in (i := 8) (v := ?_) rfl (by kernel_rfl) (fun _ _ _ h => h) rfl ?_ hHeld ?_
          rotate_left
          · intro w' hSw; go_simp; all_goals with_reducible rfl
          try simp only [Act.put, List.setIfInBounds_toArray, List.set_cons_zero, List.set_cons_succ]
          refine ready_one (i := 10) rfl (by kernel_rfl) (fun K hK => ?_)
          obtain ⟨⟨z0, z1, z2⟩, f0, f1, f2⟩ := three_cells z10
          go_simp
          have k11 := (((k10.setCell (p := ⟨w3.heap.size, 0, none⟩) h8 (.int .i64 s)).setCell (p := ⟨w3.heap.size, 1, none⟩) h8 (.slice A10 n10 c10)).setCell (p := ⟨w3.heap.size, 2, none⟩) h8 (.int .i64 p))
          have zz1 := z10.set_ 0 (.int .i64 s)
          have zz2 := zz1.set_ 1 (.slice A10 n10 c10)
          have z11 : Blk ((((x10).setCell ⟨w3.heap.size, 0, none⟩ (.int .i64 s)).setCell ⟨w3.heap.size, 1, none⟩ (.slice A10 n10 c10)).setCell ⟨w3.heap.size, 2, none⟩ (.int .i64 p)) w3.heap.size 25 #[.int .i64 s, (.slice A10 n10 c10), .int .i64 p] := zz2.set_ 2 (.int .i64 p)
          have o11 : MOwn ((((x10).setCell ⟨w3.heap.size, 0, none⟩ (.int .i64 s)).setCell ⟨w3.heap.size, 1, none⟩ (.slice A10 n10 c10)).setCell ⟨w3.heap.size, 2, none⟩ (.int .i64 p)) w3.heap.size (.slice A10 n10 c10) (sumTR (evI t)) := ((MOwn.stay o10 (Stay.set_w z10 _)).stay (Stay.set_w zz1 _)).stay (Stay.set_w zz2 _)
          refine hK.out _ ((((x10).setCell ⟨w3.heap.size, 0, none⟩ (.int .i64 s)).setCell ⟨w3.heap.size, 1, none⟩ (.slice A10 n10 c10)).setCell ⟨w3.heap.size, 2, none⟩ (.int .i64 p)) (k11) (fun hHeld => ?_)
          clear hK K
          try simp only [Act.put, List.setIfInBounds_toArray, List.set_cons_zero, List.set_cons_succ]
          refine wpAnyH_done (by kernel_rfl) ?_ _
          go_wp2
          go_meet
          exact ⟨w3.heap.size, _, rfl, Lib.hid ⟨z11, o11, k11⟩⟩
      case rest =>
        obtain ⟨b4, v4, rfl, H4⟩ := hcut
        obtain ⟨wd, hwd⟩ : ∃ wd, wd = wc := ⟨_, rfl⟩
        subst hwd
        obtain ⟨A4, n4, c4, rfl⟩ := mform H4.out.2.1
        have K4 := Lib.hid (K3.out.below H4.out.2.2)
        clear HC HV K3
        obtain ⟨⟨m0, m1, m2⟩, -⟩ := three_cells K4.out.2.1
        go_wp2_with fail
        refine (implWagerGain_any wd s _ t p (K4.out.2.2.rd qC_len)).mono ?_
        rintro e w5 ⟨v5, rfl, o5, b5⟩
        rw [HX.out] at o5
        obtain ⟨A5, c5, rfl⟩ := irow_form (k := 4) o5.rd (by rw [← HX.out]; exact HL.out)
        have K5 : Hid (WK w w1.heap.size s (.slice (some ⟨g, 0, none⟩) t.length c) p t w5 ∧ IOwn w5 wd.heap.size (.slice A5 4 c5) X ∧ Blk w5 b4 25 #[.int .i64 s, .slice A4 n4 c4, .int .i64 p] ∧ MOwn w5 w3.heap.size (.slice A4 n4 c4) (sumTR (evI t))) := Lib.hid ⟨K4.out.below b5, o5, (b5.block _ H4.out.1.lt).trans H4.out.1, H4.out.2.1.keep (SameAt.of_below b5)⟩
        clear o5 b5 m0 m1 m2
        obtain ⟨⟨m0, m1, m2⟩, -⟩ := three_cells K5.out.2.2.1
        go_wp2_with fail
        refine (implWagerOk_any w5 s _ (sumTR (evI t)) p (K5.out.2.2.2.rd qC_len)).mono ?_
        rintro e w6 ⟨rfl, b6⟩
        rw [HS.out.1]
        have K6 : Hid (WK w w1.heap.size s (.slice (some ⟨g, 0, none⟩) t.length c) p t w6 ∧ IOwn w6 wd.heap.size (.slice A5 4 c5) X ∧ Blk w6 b4 25 #[.int .i64 s, .slice A4 n4 c4, .int .i64 p] ∧ MOwn w6 w3.heap.size (.slice A4 n4 c4) (sumTR (evI t))) := Lib.hid ⟨K5.out.1.below b6, K5.out.2.1.keep (SameAt.of_below b6), (b6.block _ K5.out.2.2.1.lt).trans K5.out.2.2.1, K5.out.2.2.2.keep (SameAt.of_below b6)⟩
        clear b6 m0 m1 m2 K5
        obtain ⟨⟨m0, m1, m2⟩, -⟩ := three_cells K6.out.2.2.1
        go_wp2_with fail
        refine (implWagerGain_any w6 s _ (sumTR (evI t)) p (K6.out.2.2.2.rd qC_len)).mono ?_
        rintro e w7 ⟨v7, rfl, o7, b7⟩
        rw [HS.out.2, HX.out] at o7
        have K7 : Hid (Below w.heap.size w w7 ∧ IOwn w7 wd.heap.size (.slice A5 4 c5) X ∧ IOwn w7 w6.heap.size v7 X) := Lib.hid ⟨(K6.out.1.below b7).1, K6.out.2.1.keep (SameAt.of_below b7), o7⟩
        clear o7 b7 m0 m1 m2 K6
        go_wp2_with fail
        refine (sameInts_any w7 v7 _ X X K7.out.2.2.rd K7.out.2.1.rd).mono ?_
        rintro e w8 ⟨n8, rfl, hdr⟩
        have HB8 : Hid (Below w.heap.size w w8) := Lib.hid (by rw [hdr]; exact below_drewN K7.out.1 _)
        rw [show decide (X = X) = true from by simp]
        clear hdr
        go_wp2_with fail
        go_ret
        exact ⟨rfl, HB8.out⟩

end Go.Proofs.Ytfdlfgokoponmaa
