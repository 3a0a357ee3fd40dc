/- The walks of the laws of TermOk and EventOfTerm. Conditions: stated. (gen_xx.py) -/
import Derived.Test.YtkochmmlcenncaaXs
namespace Go.Proofs.Ytkochmmlcenncaa
open Go.RowKit
set_option linter.unusedVariables false

theorem mlit2 (w : World) (base : Nat) (hb : base ≤ w.heap.size) (x y u v : Int) : MOwn (w.alloc (.cells #[.int .i64 x, .int .i64 y, .int .i64 u, .int .i64 v] 27)) base (.slice (some ⟨w.heap.size, 0, none⟩) 2 2) [(x, y), (u, v)] :=
  World.ownsRow_lit w #[.int .i64 x, .int .i64 y, .int .i64 u, .int .i64 v] 2 hb (by unfold maxLen; omega) rfl

theorem letter_cells (w3 : World) (wr : World) (h : Below (w3.alloc (.cells #[.int .i64 0, .int .i64 1] 27)).heap.size (w3.alloc (.cells #[.int .i64 0, .int .i64 1] 27)) wr) : wr.cell? ⟨w3.heap.size, 0, none⟩ = some (.int .i64 0) ∧ wr.cell? ⟨w3.heap.size, 1, none⟩ = some (.int .i64 1) := by
  have h1 : Blk (w3.alloc (.cells #[.int .i64 0, .int .i64 1] 27)) w3.heap.size 27 #[.int .i64 0, .int .i64 1] := heap_alloc_new w3 _
  have h2 : Blk wr w3.heap.size 27 #[.int .i64 0, .int .i64 1] := (h.block w3.heap.size (by simp)).trans h1
  exact ⟨h2.cell 0, h2.cell 1⟩

theorem and_four {n : Nat} (h : n < 16) : bits BinOp.and IntKind.i64 (n : Int) 12 = ((n &&& 12 : Nat) : Int) := by
  have : ∀ a : Fin 16, bits BinOp.and IntKind.i64 ((a : Nat) : Int) 12 = (((a : Nat) &&& 12 : Nat) : Int) := by decide +kernel
  exact this ⟨n, h⟩

theorem or_four {n : Nat} (h : n < 16) : bits BinOp.or IntKind.i64 (n : Int) 12 = ((n ||| 12 : Nat) : Int) := by
  have : ∀ a : Fin 16, bits BinOp.or IntKind.i64 ((a : Nat) : Int) 12 = (((a : Nat) ||| 12 : Nat) : Int) := by decide +kernel
  exact this ⟨n, h⟩

theorem not_four {n : Nat} (h : n < 16) : notI 4 (n : Int) = ((15 - n : Nat) : Int) := by
  have hE : evB 4 (n : Int) = true := by rw [evB_iff]; simp [allI]; omega
  rw [notI_eq hE]; simp [allI]; omega

set_option maxRecDepth 100000 in
set_option maxHeartbeats 16000000 in
theorem FnTermOk_walk (a0 : Option Addr) (len0 cap0 : Nat) (z0 : List Int) (w : World) (w0 : IsRowC .u8 w a0 len0 cap0 z0) :
    Calls Try.prog 3 #[.slice a0 len0 cap0] w fun e w' => e = .returned (.bool true) ∧ Below w.heap.size w w' := by
  by_cases hlen : 1048576 < len0
  · clear w0
    go_enter Try.func3, Try.ntmps3
    go_wp2
    go_ret
    exact ⟨rfl, Below.refl _ _⟩
  · have hlen' : decide (1048576 < len0) = false := by simpa using hlen
    go_enter Try.func3, Try.ntmps3
    go_wp2_with fail
    refine (drawTermOk_any _ _ _ _ _ w0).mono ?_
    rintro e w1 ⟨g, n, c, t, rfl, o1, rfl, l1, B1⟩
    clear hlen hlen' w0
    have HK1 : Hid (MOwn w1 w.heap.size (.slice (some ⟨g, 0, none⟩) t.length c) t ∧ Below w.heap.size w w1) := Lib.hid ⟨o1, B1⟩
    clear o1 B1
    rcases Bool.eq_false_or_eq_true (tmB t) with h | h
    · have HE : Hid (tmB (t ++ [(0, 1)] ++ [(2, 0)]) = true ∧ tmB (t ++ [(0, 1)] ++ [(3, 0)]) = true ∧ tmB (t ++ [(1, 0)]) = true) := Lib.hid (tm_ext h (by omega))
      go_wp2_with fail
      refine (implTermOk_any w1 _ t (HK1.out.1.rd qC_len)).mono ?_
      rintro e w2 ⟨rfl, b2⟩
      rw [h]
      have HK2 : Hid (MOwn w2 w.heap.size (.slice (some ⟨g, 0, none⟩) t.length c) t ∧ Below w.heap.size w w2) := Lib.hid ⟨HK1.out.1.keep (SameAt.of_below b2), below_step HK1.out.2 b2 HK1.out.2.size⟩
      clear b2
      go_wp2_with fail
      refine (specTermOk_any w2 _ t (HK2.out.1.rd qC_len)).mono ?_
      rintro e w3 ⟨rfl, b3⟩
      rw [h]
      have HK3 : Hid (MOwn w3 w.heap.size (.slice (some ⟨g, 0, none⟩) t.length c) t ∧ Below w.heap.size w w3) := Lib.hid ⟨HK2.out.1.keep (SameAt.of_below b3), below_step HK2.out.2 b3 HK2.out.2.size⟩
      clear b3
      clear h
      have HB4 : Hid (Below w.heap.size w (w3.alloc (.cells #[.int .i64 0, .int .i64 1] 27))) := Lib.hid (HK3.out.2.alloc HK3.out.2.size _)
      have HC4 : Hid (∀ wr, Below (w3.alloc (.cells #[.int .i64 0, .int .i64 1] 27)).heap.size (w3.alloc (.cells #[.int .i64 0, .int .i64 1] 27)) wr → wr.cell? ⟨w3.heap.size, 0, none⟩ = some (.int .i64 0) ∧ wr.cell? ⟨w3.heap.size, 1, none⟩ = some (.int .i64 1)) := Lib.hid (letter_cells w3)
      have HT4 : Hid (∀ wr, Below (w3.alloc (.cells #[.int .i64 0, .int .i64 1] 27)).heap.size (w3.alloc (.cells #[.int .i64 0, .int .i64 1] 27)) wr → QRd wr (.slice (some ⟨g, 0, none⟩) t.length c) t) := Lib.hid (fun wr hb => (GOwn.rd qC_len (HK3.out.1.allocd _)).keep (SameAt.of_below hb))
      clear HK1 HK2 HK3
      go_upto_region 8 with fail
      generalize w3.alloc (.cells #[.int .i64 0, .int .i64 1] 27) = w4 at HB4 HC4 HT4 ⊢
      go_cut [6] (fun s wx => ∃ (g9 c9 : Nat), s = .slice (some ⟨g9, 0, none⟩) (t.length + 2) c9 ∧ MOwn wx w4.heap.size (.slice (some ⟨g9, 0, none⟩) (t.length + 2) c9) (t ++ [(0, 1)] ++ [(2, 0)]) ∧ Below w4.heap.size w4 wx)
      case first =>
        have hb0 : Below w4.heap.size w4 w4.drew := (Below.refl _ _).drew
        refine wp_region_held_drew (S := fun w' => Below w4.heap.size w4 w') (by kernel_rfl) hb0 (fun hHeld => ?_)
        refine take_in (i := 1) (v := ?_) rfl (by kernel_rfl) (fun _ _ _ h => h) rfl ?_ hHeld ?_
        rotate_left
        · intro w hSw; go_simp; all_goals with_reducible rfl
        try simp only [Act.put, List.setIfInBounds_toArray, List.set_cons_zero, List.set_cons_succ]
        refine take_in (i := 3) (v := ?_) rfl (by kernel_rfl) (fun _ _ _ h => h) rfl ?_ hHeld ?_
        rotate_left
        · intro w hSw; obtain ⟨d0, d1⟩ := HC4.out w hSw; go_simp; all_goals with_reducible rfl
        try simp only [Act.put, List.setIfInBounds_toArray, List.set_cons_zero, List.set_cons_succ]
        refine take_in (i := 4) (v := ?_) rfl (by kernel_rfl) (fun _ _ _ h => h) rfl ?_ hHeld ?_
        rotate_left
        · intro w hSw; go_simp; all_goals with_reducible rfl
        try simp only [Act.put, List.setIfInBounds_toArray, List.set_cons_zero, List.set_cons_succ]
        refine ready_two (i := 0) (j := 5) rfl rfl (by kernel_rfl) (fun K hK => ?_) (fun K hK => ?_)
        · go_simp
          have b1 : Below w4.heap.size w4 (w4.drew.alloc (.cells #[] 27)) := hb0.alloc hb0.size _
          have a1 : MOwn (w4.drew.alloc (.cells #[] 27)) w4.heap.size (.slice (some ⟨w4.heap.size, 0, none⟩) 0 0) [] := by have h := mlit0 w4.drew w4.heap.size hb0.size; exact h
          refine hK.out _ (w4.drew.alloc (.cells #[] 27)) b1 (fun hHeld => ?_)
          clear hK K
          try simp only [Act.put, List.setIfInBounds_toArray, List.set_cons_zero, List.set_cons_succ]
          refine ready_two (i := 2) (j := 5) rfl rfl (by kernel_rfl) (fun K hK => ?_) (fun K hK => ?_)
          · obtain ⟨v2, x2, r2, o2, q2, y2⟩ := run_app_row (w4.drew.alloc (.cells #[] 27)) w4.heap.size (.slice (some ⟨w4.heap.size, 0, none⟩) 0 0) [] g 0 t.length c t a1 (HT4.out _ b1) (by simp) (by omega) b1.size
            refine step_append (s := .tmp 21) (x := .tmp 22) rfl rfl r2 ?_
            have b2 : Below w4.heap.size w4 x2 := b1.grown q2 b1.size (fun g hg => (GOwn.ge a1 g hg).1)
            have a2 : MOwn x2 w4.heap.size v2 t := by simpa using o2
            refine hK.out _ x2 b2 (fun hHeld => ?_)
            clear hK K
            try simp only [Act.put, List.setIfInBounds_toArray, List.set_cons_zero, List.set_cons_succ]
            refine ready_one (i := 5) rfl (by kernel_rfl) (fun K hK => ?_)
            go_simp
            have b3 : Below w4.heap.size w4 (x2.alloc (.cells #[.int .i64 0, .int .i64 1, .int .i64 2, .int .i64 0] 27)) := b2.alloc b2.size _
            have n3 : QRd (x2.alloc (.cells #[.int .i64 0, .int .i64 1, .int .i64 2, .int .i64 0] 27)) (.slice (some ⟨x2.heap.size, 0, none⟩) 2 2) [(0, 1), (2, 0)] := by have h := GOwn.rd qC_len (mlit2 x2 w4.heap.size b2.size 0 1 2 0); exact h
            have a3 := MOwn.allocd a2 (.cells #[.int .i64 0, .int .i64 1, .int .i64 2, .int .i64 0] 27)
            have e3 : v2.ownBlock ≠ some x2.heap.size := fun e => by have h := (GOwn.ge a2 _ e).2; first | omega | (simp at h; done) | (simp at h; omega)
            refine hK.out _ (x2.alloc (.cells #[.int .i64 0, .int .i64 1, .int .i64 2, .int .i64 0] 27)) b3 (fun hHeld => ?_)
            clear hK K
            try simp only [Act.put, List.setIfInBounds_toArray, List.set_cons_zero, List.set_cons_succ]
            refine ready_one (i := 6) rfl (by kernel_rfl) (fun K hK => ?_)
            obtain ⟨v4, x4, r4, o4, q4, y4⟩ := run_app_row (x2.alloc (.cells #[.int .i64 0, .int .i64 1, .int .i64 2, .int .i64 0] 27)) w4.heap.size v2 t x2.heap.size 0 2 2 [(0, 1), (2, 0)] a3 n3 (by omega) (by simp) b3.size
            refine step_append (s := .tmp 23) (x := .tmp 26) rfl rfl r4 ?_
            have b4 : Below w4.heap.size w4 x4 := b3.grown q4 b3.size (fun g hg => (GOwn.ge a3 g hg).1)
            have a4 : MOwn x4 w4.heap.size v4 (t ++ [(0, 1), (2, 0)]) := o4
            refine hK.out _ x4 b4 (fun hHeld => ?_)
            clear hK K
            try simp only [Act.put, List.setIfInBounds_toArray, List.set_cons_zero, List.set_cons_succ]
            refine take_in (i := 7) (v := ?_) rfl (by kernel_rfl) (fun _ _ _ h => h) rfl ?_ hHeld ?_
            rotate_left
            · intro w hSw; go_simp; all_goals with_reducible rfl
            try simp only [Act.put, List.setIfInBounds_toArray, List.set_cons_zero, List.set_cons_succ]
            refine wpAnyH_done (by kernel_rfl) ?_ _
            have o9 := a4
            rw [show t ++ [((0 : Int), (1 : Int)), (2, 0)] = t ++ [(0, 1)] ++ [(2, 0)] from by simp] at o9
            obtain ⟨g9, c9, rfl, -⟩ := MOwn.form o9 (by simp)
            have hl9 : (t ++ [((0 : Int), (1 : Int))] ++ [((2 : Int), (0 : Int))]).length = t.length + 2 := by simp
            rw [hl9] at o9 ⊢
            go_wp2
            go_meet
            exact ⟨g9, c9, rfl, o9, b4⟩
          · go_simp
            have b5 : Below w4.heap.size w4 ((w4.drew.alloc (.cells #[] 27)).alloc (.cells #[.int .i64 0, .int .i64 1, .int .i64 2, .int .i64 0] 27)) := b1.alloc b1.size _
            have n5 : QRd ((w4.drew.alloc (.cells #[] 27)).alloc (.cells #[.int .i64 0, .int .i64 1, .int .i64 2, .int .i64 0] 27)) (.slice (some ⟨w4.heap.size + 1, 0, none⟩) 2 2) [(0, 1), (2, 0)] := by have h := GOwn.rd qC_len (mlit2 (w4.drew.alloc (.cells #[] 27)) w4.heap.size b1.size 0 1 2 0); rwa [show (w4.drew.alloc (.cells #[] 27)).heap.size = w4.heap.size + 1 by simp] at h
            have a5 := MOwn.allocd a1 (.cells #[.int .i64 0, .int .i64 1, .int .i64 2, .int .i64 0] 27)
            have e5 : (Value.slice (some ⟨w4.heap.size, 0, none⟩) 0 0).ownBlock ≠ some (w4.heap.size + 1) := fun e => by have h := (GOwn.ge a1 _ e).2; first | omega | (simp at h; done) | (simp at h; omega)
            refine hK.out _ ((w4.drew.alloc (.cells #[] 27)).alloc (.cells #[.int .i64 0, .int .i64 1, .int .i64 2, .int .i64 0] 27)) b5 (fun hHeld => ?_)
            clear hK K
            try simp only [Act.put, List.setIfInBounds_toArray, List.set_cons_zero, List.set_cons_succ]
            refine ready_one (i := 2) rfl (by kernel_rfl) (fun K hK => ?_)
            obtain ⟨v6, x6, r6, o6, q6, y6⟩ := run_app_row ((w4.drew.alloc (.cells #[] 27)).alloc (.cells #[.int .i64 0, .int .i64 1, .int .i64 2, .int .i64 0] 27)) w4.heap.size (.slice (some ⟨w4.heap.size, 0, none⟩) 0 0) [] g 0 t.length c t a5 (HT4.out _ b5) (by simp) (by omega) b5.size
            refine step_append (s := .tmp 21) (x := .tmp 22) rfl rfl r6 ?_
            have b6 : Below w4.heap.size w4 x6 := b5.grown q6 b5.size (fun g hg => (GOwn.ge a5 g hg).1)
            have a6 : MOwn x6 w4.heap.size v6 t := by simpa using o6
            have n6 := GRd.keep n5 (SameAt.of_grown q6 (.inr (fun e => e5 e.symm)))
            have e6 : v6.ownBlock ≠ some (w4.heap.size + 1) := by
              rcases y6 with y | y
              · rw [y]; exact e5
              · rw [y]; intro e; have h := Option.some.inj e; have h2 := GRd.blk n5; omega
            refine hK.out _ x6 b6 (fun hHeld => ?_)
            clear hK K
            try simp only [Act.put, List.setIfInBounds_toArray, List.set_cons_zero, List.set_cons_succ]
            refine ready_one (i := 6) rfl (by kernel_rfl) (fun K hK => ?_)
            obtain ⟨v7, x7, r7, o7, q7, y7⟩ := run_app_row x6 w4.heap.size v6 t (w4.heap.size + 1) 0 2 2 [(0, 1), (2, 0)] a6 n6 (by omega) (by simp) b6.size
            refine step_append (s := .tmp 23) (x := .tmp 26) rfl rfl r7 ?_
            have b7 : Below w4.heap.size w4 x7 := b6.grown q7 b6.size (fun g hg => (GOwn.ge a6 g hg).1)
            have a7 : MOwn x7 w4.heap.size v7 (t ++ [(0, 1), (2, 0)]) := o7
            refine hK.out _ x7 b7 (fun hHeld => ?_)
            clear hK K
            try simp only [Act.put, List.setIfInBounds_toArray, List.set_cons_zero, List.set_cons_succ]
            refine take_in (i := 7) (v := ?_) rfl (by kernel_rfl) (fun _ _ _ h => h) rfl ?_ hHeld ?_
            rotate_left
            · intro w hSw; go_simp; all_goals with_reducible rfl
            try simp only [Act.put, List.setIfInBounds_toArray, List.set_cons_zero, List.set_cons_succ]
            refine wpAnyH_done (by kernel_rfl) ?_ _
            have o9 := a7
            rw [show t ++ [((0 : Int), (1 : Int)), (2, 0)] = t ++ [(0, 1)] ++ [(2, 0)] from by simp] at o9
            obtain ⟨g9, c9, rfl, -⟩ := MOwn.form o9 (by simp)
            have hl9 : (t ++ [((0 : Int), (1 : Int))] ++ [((2 : Int), (0 : Int))]).length = t.length + 2 := by simp
            rw [hl9] at o9 ⊢
            go_wp2
            go_meet
            exact ⟨g9, c9, rfl, o9, b7⟩
        · go_simp
          have b8 : Below w4.heap.size w4 (w4.drew.alloc (.cells #[.int .i64 0, .int .i64 1, .int .i64 2, .int .i64 0] 27)) := hb0.alloc hb0.size _
          have n8 : QRd (w4.drew.alloc (.cells #[.int .i64 0, .int .i64 1, .int .i64 2, .int .i64 0] 27)) (.slice (some ⟨w4.heap.size, 0, none⟩) 2 2) [(0, 1), (2, 0)] := by have h := GOwn.rd qC_len (mlit2 w4.drew w4.heap.size hb0.size 0 1 2 0); exact h
          refine hK.out _ (w4.drew.alloc (.cells #[.int .i64 0, .int .i64 1, .int .i64 2, .int .i64 0] 27)) b8 (fun hHeld => ?_)
          clear hK K
          try simp only [Act.put, List.setIfInBounds_toArray, List.set_cons_zero, List.set_cons_succ]
          refine ready_one (i := 0) rfl (by kernel_rfl) (fun K hK => ?_)
          go_simp
          have b9 : Below w4.heap.size w4 ((w4.drew.alloc (.cells #[.int .i64 0, .int .i64 1, .int .i64 2, .int .i64 0] 27)).alloc (.cells #[] 27)) := b8.alloc b8.size _
          have a9 : MOwn ((w4.drew.alloc (.cells #[.int .i64 0, .int .i64 1, .int .i64 2, .int .i64 0] 27)).alloc (.cells #[] 27)) w4.heap.size (.slice (some ⟨w4.heap.size + 1, 0, none⟩) 0 0) [] := by have h := mlit0 (w4.drew.alloc (.cells #[.int .i64 0, .int .i64 1, .int .i64 2, .int .i64 0] 27)) w4.heap.size b8.size; rwa [show (w4.drew.alloc (.cells #[.int .i64 0, .int .i64 1, .int .i64 2, .int .i64 0] 27)).heap.size = w4.heap.size + 1 by simp] at h
          have n9 := QRd.allocd n8 (.cells #[] 27)
          have e9 : (Value.slice (some ⟨w4.heap.size + 1, 0, none⟩) 0 0).ownBlock ≠ some w4.heap.size := by intro e; have h : w4.heap.size + 1 = w4.heap.size := Option.some.inj e; omega
          refine hK.out _ ((w4.drew.alloc (.cells #[.int .i64 0, .int .i64 1, .int .i64 2, .int .i64 0] 27)).alloc (.cells #[] 27)) b9 (fun hHeld => ?_)
          clear hK K
          try simp only [Act.put, List.setIfInBounds_toArray, List.set_cons_zero, List.set_cons_succ]
          refine ready_one (i := 2) rfl (by kernel_rfl) (fun K hK => ?_)
          obtain ⟨v10, x10, r10, o10, q10, y10⟩ := run_app_row ((w4.drew.alloc (.cells #[.int .i64 0, .int .i64 1, .int .i64 2, .int .i64 0] 27)).alloc (.cells #[] 27)) w4.heap.size (.slice (some ⟨w4.heap.size + 1, 0, none⟩) 0 0) [] g 0 t.length c t a9 (HT4.out _ b9) (by simp) (by omega) b9.size
          refine step_append (s := .tmp 21) (x := .tmp 22) rfl rfl r10 ?_
          have b10 : Below w4.heap.size w4 x10 := b9.grown q10 b9.size (fun g hg => (GOwn.ge a9 g hg).1)
          have a10 : MOwn x10 w4.heap.size v10 t := by simpa using o10
          have n10 := GRd.keep n9 (SameAt.of_grown q10 (.inr (fun e => e9 e.symm)))
          have e10 : v10.ownBlock ≠ some w4.heap.size := by
            rcases y10 with y | y
            · rw [y]; exact e9
            · rw [y]; intro e; have h := Option.some.inj e; have h2 := GRd.blk n9; omega
          refine hK.out _ x10 b10 (fun hHeld => ?_)
          clear hK K
          try simp only [Act.put, List.setIfInBounds_toArray, List.set_cons_zero, List.set_cons_succ]
          refine ready_one (i := 6) rfl (by kernel_rfl) (fun K hK => ?_)
          obtain ⟨v11, x11, r11, o11, q11, y11⟩ := run_app_row x10 w4.heap.size v10 t w4.heap.size 0 2 2 [(0, 1), (2, 0)] a10 n10 (by omega) (by simp) b10.size
          refine step_append (s := .tmp 23) (x := .tmp 26) rfl rfl r11 ?_
          have b11 : Below w4.heap.size w4 x11 := b10.grown q11 b10.size (fun g hg => (GOwn.ge a10 g hg).1)
          have a11 : MOwn x11 w4.heap.size v11 (t ++ [(0, 1), (2, 0)]) := o11
          refine hK.out _ x11 b11 (fun hHeld => ?_)
          clear hK K
          try simp only [Act.put, List.setIfInBounds_toArray, List.set_cons_zero, List.set_cons_succ]
          refine take_in (i := 7) (v := ?_) rfl (by kernel_rfl) (fun _ _ _ h => h) rfl ?_ hHeld ?_
          rotate_left
          · intro w hSw; go_simp; all_goals with_reducible rfl
          try simp only [Act.put, List.setIfInBounds_toArray, List.set_cons_zero, List.set_cons_succ]
          refine wpAnyH_done (by kernel_rfl) ?_ _
          have o9 := a11
          rw [show t ++ [((0 : Int), (1 : Int)), (2, 0)] = t ++ [(0, 1)] ++ [(2, 0)] from by simp] at o9
          obtain ⟨g9, c9, rfl, -⟩ := MOwn.form o9 (by simp)
          have hl9 : (t ++ [((0 : Int), (1 : Int))] ++ [((2 : Int), (0 : Int))]).length = t.length + 2 := by simp
          rw [hl9] at o9 ⊢
          go_wp2
          go_meet
          exact ⟨g9, c9, rfl, o9, b11⟩
      case rest =>
        obtain ⟨g6, c6, rfl, o6, b6⟩ := hcut
        obtain ⟨wd, hwd⟩ : ∃ wd, wd = wc := ⟨_, rfl⟩
        subst hwd
        have HA6 : Hid (MOwn wd w4.heap.size (.slice (some ⟨g6, 0, none⟩) (t.length + 2) c6) (t ++ [(0, 1)] ++ [(2, 0)])) := Lib.hid o6
        have HW6 := Lib.hid b6
        have HT6 : Hid (∀ wr, Below wd.heap.size wd wr → QRd wr (.slice (some ⟨g, 0, none⟩) t.length c) t) := Lib.hid (fun wr hb => HT4.out wr (below_step HW6.out hb HW6.out.size))
        have HC6 : Hid (∀ wr, Below wd.heap.size wd wr → wr.cell? ⟨w3.heap.size, 0, none⟩ = some (.int .i64 0) ∧ wr.cell? ⟨w3.heap.size, 1, none⟩ = some (.int .i64 1)) := Lib.hid (fun wr hb => HC4.out wr (below_step HW6.out hb HW6.out.size))
        clear o6 b6 HT4 HC4
        go_upto_region 9 with fail
        go_cut [7] (fun s wx => ∃ (g9 c9 : Nat), s = .slice (some ⟨g9, 0, none⟩) (t.length + 2) c9 ∧ MOwn wx wd.heap.size (.slice (some ⟨g9, 0, none⟩) (t.length + 2) c9) (t ++ [(0, 1)] ++ [(3, 0)]) ∧ Below wd.heap.size wd wx)
        case first =>
          have hb0 : Below wd.heap.size wd wd.drew := (Below.refl _ _).drew
          refine wp_region_held_drew (S := fun w' => Below wd.heap.size wd w') (by kernel_rfl) hb0 (fun hHeld => ?_)
          refine take_in (i := 1) (v := ?_) rfl (by kernel_rfl) (fun _ _ _ h => h) rfl ?_ hHeld ?_
          rotate_left
          · intro w hSw; go_simp; all_goals with_reducible rfl
          try simp only [Act.put, List.setIfInBounds_toArray, List.set_cons_zero, List.set_cons_succ]
          refine take_in (i := 3) (v := ?_) rfl (by kernel_rfl) (fun _ _ _ h => h) rfl ?_ hHeld ?_
          rotate_left
          · intro w hSw; obtain ⟨d0, d1⟩ := HC6.out w hSw; go_simp; all_goals with_reducible rfl
          try simp only [Act.put, List.setIfInBounds_toArray, List.set_cons_zero, List.set_cons_succ]
          refine take_in (i := 4) (v := ?_) rfl (by kernel_rfl) (fun _ _ _ h => h) rfl ?_ hHeld ?_
          rotate_left
          · intro w hSw; go_simp; all_goals with_reducible rfl
          try simp only [Act.put, List.setIfInBounds_toArray, List.set_cons_zero, List.set_cons_succ]
          refine ready_two (i := 0) (j := 5) rfl rfl (by kernel_rfl) (fun K hK => ?_) (fun K hK => ?_)
          · go_simp
            have b12 : Below wd.heap.size wd (wd.drew.alloc (.cells #[] 27)) := hb0.alloc hb0.size _
            have a12 : MOwn (wd.drew.alloc (.cells #[] 27)) wd.heap.size (.slice (some ⟨wd.heap.size, 0, none⟩) 0 0) [] := by have h := mlit0 wd.drew wd.heap.size hb0.size; exact h
            refine hK.out _ (wd.drew.alloc (.cells #[] 27)) b12 (fun hHeld => ?_)
            clear hK K
            try simp only [Act.put, List.setIfInBounds_toArray, List.set_cons_zero, List.set_cons_succ]
            refine ready_two (i := 2) (j := 5) rfl rfl (by kernel_rfl) (fun K hK => ?_) (fun K hK => ?_)
            · obtain ⟨v13, x13, r13, o13, q13, y13⟩ := run_app_row (wd.drew.alloc (.cells #[] 27)) wd.heap.size (.slice (some ⟨wd.heap.size, 0, none⟩) 0 0) [] g 0 t.length c t a12 (HT6.out _ b12) (by simp) (by omega) b12.size
              refine step_append (s := .tmp 28) (x := .tmp 29) rfl rfl r13 ?_
              have b13 : Below wd.heap.size wd x13 := b12.grown q13 b12.size (fun g hg => (GOwn.ge a12 g hg).1)
              have a13 : MOwn x13 wd.heap.size v13 t := by simpa using o13
              refine hK.out _ x13 b13 (fun hHeld => ?_)
              clear hK K
              try simp only [Act.put, List.setIfInBounds_toArray, List.set_cons_zero, List.set_cons_succ]
              refine ready_one (i := 5) rfl (by kernel_rfl) (fun K hK => ?_)
              go_simp
              have b14 : Below wd.heap.size wd (x13.alloc (.cells #[.int .i64 0, .int .i64 1, .int .i64 3, .int .i64 0] 27)) := b13.alloc b13.size _
              have n14 : QRd (x13.alloc (.cells #[.int .i64 0, .int .i64 1, .int .i64 3, .int .i64 0] 27)) (.slice (some ⟨x13.heap.size, 0, none⟩) 2 2) [(0, 1), (3, 0)] := by have h := GOwn.rd qC_len (mlit2 x13 wd.heap.size b13.size 0 1 3 0); exact h
              have a14 := MOwn.allocd a13 (.cells #[.int .i64 0, .int .i64 1, .int .i64 3, .int .i64 0] 27)
              have e14 : v13.ownBlock ≠ some x13.heap.size := fun e => by have h := (GOwn.ge a13 _ e).2; first | omega | (simp at h; done) | (simp at h; omega)
              refine hK.out _ (x13.alloc (.cells #[.int .i64 0, .int .i64 1, .int .i64 3, .int .i64 0] 27)) b14 (fun hHeld => ?_)
              clear hK K
              try simp only [Act.put, List.setIfInBounds_toArray, List.set_cons_zero, List.set_cons_succ]
              refine ready_one (i := 6) rfl (by kernel_rfl) (fun K hK => ?_)
              obtain ⟨v15, x15, r15, o15, q15, y15⟩ := run_app_row (x13.alloc (.cells #[.int .i64 0, .int .i64 1, .int .i64 3, .int .i64 0] 27)) wd.heap.size v13 t x13.heap.size 0 2 2 [(0, 1), (3, 0)] a14 n14 (by omega) (by simp) b14.size
              refine step_append (s := .tmp 30) (x := .tmp 33) rfl rfl r15 ?_
              have b15 : Below wd.heap.size wd x15 := b14.grown q15 b14.size (fun g hg => (GOwn.ge a14 g hg).1)
              have a15 : MOwn x15 wd.heap.size v15 (t ++ [(0, 1), (3, 0)]) := o15
              refine hK.out _ x15 b15 (fun hHeld => ?_)
              clear hK K
              try simp only [Act.put, List.setIfInBounds_toArray, List.set_cons_zero, List.set_cons_succ]
              refine take_in (i := 7) (v := ?_) rfl (by kernel_rfl) (fun _ _ _ h => h) rfl ?_ hHeld ?_
              rotate_left
              · intro w hSw; go_simp; all_goals with_reducible rfl
              try simp only [Act.put, List.setIfInBounds_toArray, List.set_cons_zero, List.set_cons_succ]
              refine wpAnyH_done (by kernel_rfl) ?_ _
              have o9 := a15
              rw [show t ++ [((0 : Int), (1 : Int)), (3, 0)] = t ++ [(0, 1)] ++ [(3, 0)] from by simp] at o9
              obtain ⟨g9, c9, rfl, -⟩ := MOwn.form o9 (by simp)
              have hl9 : (t ++ [((0 : Int), (1 : Int))] ++ [((3 : Int), (0 : Int))]).length = t.length + 2 := by simp
              rw [hl9] at o9 ⊢
              go_wp2
              go_meet
              exact ⟨g9, c9, rfl, o9, b15⟩
            · go_simp
              have b16 : Below wd.heap.size wd ((wd.drew.alloc (.cells #[] 27)).alloc (.cells #[.int .i64 0, .int .i64 1, .int .i64 3, .int .i64 0] 27)) := b12.alloc b12.size _
              have n16 : QRd ((wd.drew.alloc (.cells #[] 27)).alloc (.cells #[.int .i64 0, .int .i64 1, .int .i64 3, .int .i64 0] 27)) (.slice (some ⟨wd.heap.size + 1, 0, none⟩) 2 2) [(0, 1), (3, 0)] := by have h := GOwn.rd qC_len (mlit2 (wd.drew.alloc (.cells #[] 27)) wd.heap.size b12.size 0 1 3 0); rwa [show (wd.drew.alloc (.cells #[] 27)).heap.size = wd.heap.size + 1 by simp] at h
              have a16 := MOwn.allocd a12 (.cells #[.int .i64 0, .int .i64 1, .int .i64 3, .int .i64 0] 27)
              have e16 : (Value.slice (some ⟨wd.heap.size, 0, none⟩) 0 0).ownBlock ≠ some (wd.heap.size + 1) := fun e => by have h := (GOwn.ge a12 _ e).2; first | omega | (simp at h; done) | (simp at h; omega)
              refine hK.out _ ((wd.drew.alloc (.cells #[] 27)).alloc (.cells #[.int .i64 0, .int .i64 1, .int .i64 3, .int .i64 0] 27)) b16 (fun hHeld => ?_)
              clear hK K
              try simp only [Act.put, List.setIfInBounds_toArray, List.set_cons_zero, List.set_cons_succ]
              refine ready_one (i := 2) rfl (by kernel_rfl) (fun K hK => ?_)
              obtain ⟨v17, x17, r17, o17, q17, y17⟩ := run_app_row ((wd.drew.alloc (.cells #[] 27)).alloc (.cells #[.int .i64 0, .int .i64 1, .int .i64 3, .int .i64 0] 27)) wd.heap.size (.slice (some ⟨wd.heap.size, 0, none⟩) 0 0) [] g 0 t.length c t a16 (HT6.out _ b16) (by simp) (by omega) b16.size
              refine step_append (s := .tmp 28) (x := .tmp 29) rfl rfl r17 ?_
              have b17 : Below wd.heap.size wd x17 := b16.grown q17 b16.size (fun g hg => (GOwn.ge a16 g hg).1)
              have a17 : MOwn x17 wd.heap.size v17 t := by simpa using o17
              have n17 := GRd.keep n16 (SameAt.of_grown q17 (.inr (fun e => e16 e.symm)))
              have e17 : v17.ownBlock ≠ some (wd.heap.size + 1) := by
                rcases y17 with y | y
                · rw [y]; exact e16
                · rw [y]; intro e; have h := Option.some.inj e; have h2 := GRd.blk n16; omega
              refine hK.out _ x17 b17 (fun hHeld => ?_)
              clear hK K
              try simp only [Act.put, List.setIfInBounds_toArray, List.set_cons_zero, List.set_cons_succ]
              refine ready_one (i := 6) rfl (by kernel_rfl) (fun K hK => ?_)
              obtain ⟨v18, x18, r18, o18, q18, y18⟩ := run_app_row x17 wd.heap.size v17 t (wd.heap.size + 1) 0 2 2 [(0, 1), (3, 0)] a17 n17 (by omega) (by simp) b17.size
              refine step_append (s := .tmp 30) (x := .tmp 33) rfl rfl r18 ?_
              have b18 : Below wd.heap.size wd x18 := b17.grown q18 b17.size (fun g hg => (GOwn.ge a17 g hg).1)
              have a18 : MOwn x18 wd.heap.size v18 (t ++ [(0, 1), (3, 0)]) := o18
              refine hK.out _ x18 b18 (fun hHeld => ?_)
              clear hK K
              try simp only [Act.put, List.setIfInBounds_toArray, List.set_cons_zero, List.set_cons_succ]
              refine take_in (i := 7) (v := ?_) rfl (by kernel_rfl) (fun _ _ _ h => h) rfl ?_ hHeld ?_
              rotate_left
              · intro w hSw; go_simp; all_goals with_reducible rfl
              try simp only [Act.put, List.setIfInBounds_toArray, List.set_cons_zero, List.set_cons_succ]
              refine wpAnyH_done (by kernel_rfl) ?_ _
              have o9 := a18
              rw [show t ++ [((0 : Int), (1 : Int)), (3, 0)] = t ++ [(0, 1)] ++ [(3, 0)] from by simp] at o9
              obtain ⟨g9, c9, rfl, -⟩ := MOwn.form o9 (by simp)
              have hl9 : (t ++ [((0 : Int), (1 : Int))] ++ [((3 : Int), (0 : Int))]).length = t.length + 2 := by simp
              rw [hl9] at o9 ⊢
              go_wp2
              go_meet
              exact ⟨g9, c9, rfl, o9, b18⟩
          · go_simp
            have b19 : Below wd.heap.size wd (wd.drew.alloc (.cells #[.int .i64 0, .int .i64 1, .int .i64 3, .int .i64 0] 27)) := hb0.alloc hb0.size _
            have n19 : QRd (wd.drew.alloc (.cells #[.int .i64 0, .int .i64 1, .int .i64 3, .int .i64 0] 27)) (.slice (some ⟨wd.heap.size, 0, none⟩) 2 2) [(0, 1), (3, 0)] := by have h := GOwn.rd qC_len (mlit2 wd.drew wd.heap.size hb0.size 0 1 3 0); exact h
            refine hK.out _ (wd.drew.alloc (.cells #[.int .i64 0, .int .i64 1, .int .i64 3, .int .i64 0] 27)) b19 (fun hHeld => ?_)
            clear hK K
            try simp only [Act.put, List.setIfInBounds_toArray, List.set_cons_zero, List.set_cons_succ]
            refine ready_one (i := 0) rfl (by kernel_rfl) (fun K hK => ?_)
            go_simp
            have b20 : Below wd.heap.size wd ((wd.drew.alloc (.cells #[.int .i64 0, .int .i64 1, .int .i64 3, .int .i64 0] 27)).alloc (.cells #[] 27)) := b19.alloc b19.size _
            have a20 : MOwn ((wd.drew.alloc (.cells #[.int .i64 0, .int .i64 1, .int .i64 3, .int .i64 0] 27)).alloc (.cells #[] 27)) wd.heap.size (.slice (some ⟨wd.heap.size + 1, 0, none⟩) 0 0) [] := by have h := mlit0 (wd.drew.alloc (.cells #[.int .i64 0, .int .i64 1, .int .i64 3, .int .i64 0] 27)) wd.heap.size b19.size; rwa [show (wd.drew.alloc (.cells #[.int .i64 0, .int .i64 1, .int .i64 3, .int .i64 0] 27)).heap.size = wd.heap.size + 1 by simp] at h
            have n20 := QRd.allocd n19 (.cells #[] 27)
            have e20 : (Value.slice (some ⟨wd.heap.size + 1, 0, none⟩) 0 0).ownBlock ≠ some wd.heap.size := by intro e; have h : wd.heap.size + 1 = wd.heap.size := Option.some.inj e; omega
            refine hK.out _ ((wd.drew.alloc (.cells #[.int .i64 0, .int .i64 1, .int .i64 3, .int .i64 0] 27)).alloc (.cells #[] 27)) b20 (fun hHeld => ?_)
            clear hK K
            try simp only [Act.put, List.setIfInBounds_toArray, List.set_cons_zero, List.set_cons_succ]
            refine ready_one (i := 2) rfl (by kernel_rfl) (fun K hK => ?_)
            obtain ⟨v21, x21, r21, o21, q21, y21⟩ := run_app_row ((wd.drew.alloc (.cells #[.int .i64 0, .int .i64 1, .int .i64 3, .int .i64 0] 27)).alloc (.cells #[] 27)) wd.heap.size (.slice (some ⟨wd.heap.size + 1, 0, none⟩) 0 0) [] g 0 t.length c t a20 (HT6.out _ b20) (by simp) (by omega) b20.size
            refine step_append (s := .tmp 28) (x := .tmp 29) rfl rfl r21 ?_
            have b21 : Below wd.heap.size wd x21 := b20.grown q21 b20.size (fun g hg => (GOwn.ge a20 g hg).1)
            have a21 : MOwn x21 wd.heap.size v21 t := by simpa using o21
            have n21 := GRd.keep n20 (SameAt.of_grown q21 (.inr (fun e => e20 e.symm)))
            have e21 : v21.ownBlock ≠ some wd.heap.size := by
              rcases y21 with y | y
              · rw [y]; exact e20
              · rw [y]; intro e; have h := Option.some.inj e; have h2 := GRd.blk n20; omega
            refine hK.out _ x21 b21 (fun hHeld => ?_)
            clear hK K
            try simp only [Act.put, List.setIfInBounds_toArray, List.set_cons_zero, List.set_cons_succ]
            refine ready_one (i := 6) rfl (by kernel_rfl) (fun K hK => ?_)
            obtain ⟨v22, x22, r22, o22, q22, y22⟩ := run_app_row x21 wd.heap.size v21 t wd.heap.size 0 2 2 [(0, 1), (3, 0)] a21 n21 (by omega) (by simp) b21.size
            refine step_append (s := .tmp 30) (x := .tmp 33) rfl rfl r22 ?_
            have b22 : Below wd.heap.size wd x22 := b21.grown q22 b21.size (fun g hg => (GOwn.ge a21 g hg).1)
            have a22 : MOwn x22 wd.heap.size v22 (t ++ [(0, 1), (3, 0)]) := o22
            refine hK.out _ x22 b22 (fun hHeld => ?_)
            clear hK K
            try simp only [Act.put, List.setIfInBounds_toArray, List.set_cons_zero, List.set_cons_succ]
            refine take_in (i := 7) (v := ?_) rfl (by kernel_rfl) (fun _ _ _ h => h) rfl ?_ hHeld ?_
            rotate_left
            · intro w hSw; go_simp; all_goals with_reducible rfl
            try simp only [Act.put, List.setIfInBounds_toArray, List.set_cons_zero, List.set_cons_succ]
            refine wpAnyH_done (by kernel_rfl) ?_ _
            have o9 := a22
            rw [show t ++ [((0 : Int), (1 : Int)), (3, 0)] = t ++ [(0, 1)] ++ [(3, 0)] from by simp] at o9
            obtain ⟨g9, c9, rfl, -⟩ := MOwn.form o9 (by simp)
            have hl9 : (t ++ [((0 : Int), (1 : Int))] ++ [((3 : Int), (0 : Int))]).length = t.length + 2 := by simp
            rw [hl9] at o9 ⊢
            go_wp2
            go_meet
            exact ⟨g9, c9, rfl, o9, b22⟩
        case rest =>
          obtain ⟨g7, c7, rfl, o7, b7⟩ := hcut
          have HA7 : Hid (MOwn wc wd.heap.size (.slice (some ⟨g7, 0, none⟩) (t.length + 2) c7) (t ++ [(0, 1)] ++ [(3, 0)])) := Lib.hid o7
          have HW7 := Lib.hid b7
          clear o7 b7
          have HTT : Hid (∀ wr, Below wc.heap.size wc wr → QRd wr (.slice (some ⟨g, 0, none⟩) t.length c) t) := Lib.hid (fun wr hb => HT6.out wr (below_step HW7.out hb HW7.out.size))
          have HCC : Hid (∀ wr, Below wc.heap.size wc wr → wr.cell? ⟨w3.heap.size, 0, none⟩ = some (.int .i64 0) ∧ wr.cell? ⟨w3.heap.size, 1, none⟩ = some (.int .i64 1)) := Lib.hid (fun wr hb => HC6.out wr (below_step HW7.out hb HW7.out.size))
          have HWW : Hid (Below w.heap.size w wc) := Lib.hid (below_step (below_step HB4.out HW6.out HB4.out.size) HW7.out (Nat.le_trans HB4.out.size HW6.out.size))
          have HX6 : Hid (MOwn wc w4.heap.size (.slice (some ⟨g6, 0, none⟩) (t.length + 2) c6) (t ++ [(0, 1)] ++ [(2, 0)])) := Lib.hid (HA6.out.keep (SameAt.of_below HW7.out))
          clear HA6 HT6 HC6 HW6 HW7 HB4
          have HE0 := Lib.hid (mlit0 wc wc.heap.size (Nat.le_refl _))
          have HR := Lib.hid (HTT.out _ ((Below.refl _ wc).alloc (Nat.le_refl _) (.cells #[] 27)))
          go_wp2_with (at_builtin; refine wp_app_row rfl _ _ rfl _ wc.heap.size _ [] g 0 _ c t (by rfl) HE0.out (by rfl) HR.out ?a1 ?a2 ?a3 ?_)
          case a1 => simp
          case a2 => omega
          case a3 => simp
          intro v6 w6 o6 q6 _ y6
          have HB6 : Hid (Below wc.heap.size wc w6) := Lib.hid (((Below.refl _ wc).alloc (Nat.le_refl _) _).grown q6 (by simp) (fun g hg => (GOwn.ge HE0.out g hg).1))
          have HO6 : Hid (MOwn w6 wc.heap.size v6 t) := Lib.hid (by simpa using o6)
          clear o6 q6 y6 HE0 HR
          go_wp2_with (at_builtin; refine wp_app_mark rfl _ _ rfl _ wc.heap.size _ _ _ _ (by rfl) HO6.out (by rfl) ?b1 ?b2 ?_)
          case b1 => omega
          case b2 => exact HB6.out.size
          intro v8 w8 o8 b8 nn8
          have HB8 : Hid (Below wc.heap.size wc w8) := Lib.hid (HB6.out.trans b8)
          have HO8 : Hid (MOwn w8 wc.heap.size v8 (t ++ [(1, 0)])) := Lib.hid o8
          clear o8 b8 nn8 HO6 HB6
          have HD8 : Hid (Below w.heap.size w w8) := Lib.hid (below_step HWW.out HB8.out HWW.out.size)
          have HG8 : Hid (Below wc.heap.size wc w8) := HB8
          have HQ8 : Hid (Below w8.heap.size w8 w8) := Lib.hid (Below.refl _ _)
          obtain ⟨hc0, hc1⟩ := HCC.out _ HG8.out
          have hl38 : (t.length : Int) ≤ 38 := by omega
          go_wp2_with fail
          refine (implTermOk_any (w8.alloc (.cells #[.int .i64 0, .int .i64 1] 27)) _ [(0, 1)] (GOwn.rd qC_len (mlit1 w8 0 (Nat.zero_le _) 0 1))).mono ?_
          rintro e w9 ⟨rfl, b9⟩
          rw [show tmB [(0, 1)] = true from by decide]
          have HD9 := Lib.hid (below_step (HD8.out.alloc HD8.out.size _) b9 (Nat.le_trans HD8.out.size (by simp)))
          have HG9 := Lib.hid (below_step (HG8.out.alloc HG8.out.size _) b9 (Nat.le_trans HG8.out.size (by simp)))
          have HQ9 := Lib.hid (below_step (HQ8.out.alloc HQ8.out.size _) b9 (Nat.le_trans HQ8.out.size (by simp)))
          clear b9
          clear hc0 hc1
          go_wp2_with fail
          refine (implTermOk_any (w9.alloc (.cells #[.int .i64 0, .int .i64 0] 27)) _ [(0, 0)] (GOwn.rd qC_len (mlit1 w9 0 (Nat.zero_le _) 0 0))).mono ?_
          rintro e w10 ⟨rfl, b10⟩
          rw [show tmB [(0, 0)] = true from by decide]
          have HD10 := Lib.hid (below_step (HD9.out.alloc HD9.out.size _) b10 (Nat.le_trans HD9.out.size (by simp)))
          have HG10 := Lib.hid (below_step (HG9.out.alloc HG9.out.size _) b10 (Nat.le_trans HG9.out.size (by simp)))
          have HQ10 := Lib.hid (below_step (HQ9.out.alloc HQ9.out.size _) b10 (Nat.le_trans HQ9.out.size (by simp)))
          clear b10
          go_wp2_with fail
          refine (implTermOk_any w10 _ _ (GRd.keep (GOwn.rd qC_len HX6.out) (SameAt.of_below HG10.out))).mono ?_
          rintro e w11 ⟨rfl, b11⟩
          rw [HE.out.1]
          have HD11 := Lib.hid (below_step HD10.out b11 HD10.out.size)
          have HG11 := Lib.hid (below_step HG10.out b11 HG10.out.size)
          have HQ11 := Lib.hid (below_step (HQ10.out) b11 HQ10.out.size)
          clear b11
          go_wp2_with fail
          refine (implTermOk_any w11 _ _ (GRd.keep (GOwn.rd qC_len HA7.out) (SameAt.of_below HG11.out))).mono ?_
          rintro e w12 ⟨rfl, b12⟩
          rw [HE.out.2.1]
          have HD12 := Lib.hid (below_step HD11.out b12 HD11.out.size)
          have HG12 := Lib.hid (below_step HG11.out b12 HG11.out.size)
          have HQ12 := Lib.hid (below_step (HQ11.out) b12 HQ11.out.size)
          clear b12
          go_wp2_with fail
          refine (implTermOk_any w12 v8 _ (GRd.keep (GOwn.rd qC_len HO8.out) (SameAt.of_below HQ12.out))).mono ?_
          rintro e w13 ⟨rfl, b13⟩
          rw [HE.out.2.2]
          have HD13 := Lib.hid (below_step HD12.out b13 HD12.out.size)
          have HG13 := Lib.hid (below_step HG12.out b13 HG12.out.size)
          clear b13
          go_wp2_with fail
          refine (implTermOk_any (w13.alloc (.cells #[] 27)) _ [] (GOwn.rd qC_len (mlit0 w13 0 (Nat.zero_le _)))).mono ?_
          rintro e w14 ⟨rfl, b14⟩
          rw [show tmB [] = false from by decide]
          have HD14 := Lib.hid (below_step (HD13.out.alloc HD13.out.size _) b14 (Nat.le_trans HD13.out.size (by simp)))
          clear b14
          go_wp2_with fail
          refine (alive_any _).mono ?_
          rintro e w' ⟨rfl, rfl⟩
          go_wp2_with fail
          go_ret
          exact ⟨rfl, HD14.out⟩
    · go_wp2_with fail
      refine (implTermOk_any w1 _ t (HK1.out.1.rd qC_len)).mono ?_
      rintro e w2 ⟨rfl, b2⟩
      rw [h]
      have HK2 : Hid (MOwn w2 w.heap.size (.slice (some ⟨g, 0, none⟩) t.length c) t ∧ Below w.heap.size w w2) := Lib.hid ⟨HK1.out.1.keep (SameAt.of_below b2), below_step HK1.out.2 b2 HK1.out.2.size⟩
      clear b2
      go_wp2_with fail
      refine (specTermOk_any w2 _ t (HK2.out.1.rd qC_len)).mono ?_
      rintro e w3 ⟨rfl, b3⟩
      rw [h]
      have HK3 : Hid (MOwn w3 w.heap.size (.slice (some ⟨g, 0, none⟩) t.length c) t ∧ Below w.heap.size w w3) := Lib.hid ⟨HK2.out.1.keep (SameAt.of_below b3), below_step HK2.out.2 b3 HK2.out.2.size⟩
      clear b3
      clear h
      have HB4 : Hid (Below w.heap.size w (w3.alloc (.cells #[.int .i64 0, .int .i64 1] 27))) := Lib.hid (HK3.out.2.alloc HK3.out.2.size _)
      have HC4 : Hid (∀ wr, Below (w3.alloc (.cells #[.int .i64 0, .int .i64 1] 27)).heap.size (w3.alloc (.cells #[.int .i64 0, .int .i64 1] 27)) wr → wr.cell? ⟨w3.heap.size, 0, none⟩ = some (.int .i64 0) ∧ wr.cell? ⟨w3.heap.size, 1, none⟩ = some (.int .i64 1)) := Lib.hid (letter_cells w3)
      have HT4 : Hid (∀ wr, Below (w3.alloc (.cells #[.int .i64 0, .int .i64 1] 27)).heap.size (w3.alloc (.cells #[.int .i64 0, .int .i64 1] 27)) wr → QRd wr (.slice (some ⟨g, 0, none⟩) t.length c) t) := Lib.hid (fun wr hb => (GOwn.rd qC_len (HK3.out.1.allocd _)).keep (SameAt.of_below hb))
      clear HK1 HK2 HK3
      go_upto_region 8 with fail
      generalize w3.alloc (.cells #[.int .i64 0, .int .i64 1] 27) = w4 at HB4 HC4 HT4 ⊢
      go_cut [6] (fun s wx => ∃ (g9 c9 : Nat), s = .slice (some ⟨g9, 0, none⟩) (t.length + 2) c9 ∧ MOwn wx w4.heap.size (.slice (some ⟨g9, 0, none⟩) (t.length + 2) c9) (t ++ [(0, 1)] ++ [(2, 0)]) ∧ Below w4.heap.size w4 wx)
      case first =>
        have hb0 : Below w4.heap.size w4 w4.drew := (Below.refl _ _).drew
        refine wp_region_held_drew (S := fun w' => Below w4.heap.size w4 w') (by kernel_rfl) hb0 (fun hHeld => ?_)
        refine take_in (i := 1) (v := ?_) rfl (by kernel_rfl) (fun _ _ _ h => h) rfl ?_ hHeld ?_
        rotate_left
        · intro w hSw; go_simp; all_goals with_reducible rfl
        try simp only [Act.put, List.setIfInBounds_toArray, List.set_cons_zero, List.set_cons_succ]
        refine take_in (i := 3) (v := ?_) rfl (by kernel_rfl) (fun _ _ _ h => h) rfl ?_ hHeld ?_
        rotate_left
        · intro w hSw; obtain ⟨d0, d1⟩ := HC4.out w hSw; go_simp; all_goals with_reducible rfl
        try simp only [Act.put, List.setIfInBounds_toArray, List.set_cons_zero, List.set_cons_succ]
        refine take_in (i := 4) (v := ?_) rfl (by kernel_rfl) (fun _ _ _ h => h) rfl ?_ hHeld ?_
        rotate_left
        · intro w hSw; go_simp; all_goals with_reducible rfl
        try simp only [Act.put, List.setIfInBounds_toArray, List.set_cons_zero, List.set_cons_succ]
        refine ready_two (i := 0) (j := 5) rfl rfl (by kernel_rfl) (fun K hK => ?_) (fun K hK => ?_)
        · go_simp
          have b23 : Below w4.heap.size w4 (w4.drew.alloc (.cells #[] 27)) := hb0.alloc hb0.size _
          have a23 : MOwn (w4.drew.alloc (.cells #[] 27)) w4.heap.size (.slice (some ⟨w4.heap.size, 0, none⟩) 0 0) [] := by have h := mlit0 w4.drew w4.heap.size hb0.size; exact h
          refine hK.out _ (w4.drew.alloc (.cells #[] 27)) b23 (fun hHeld => ?_)
          clear hK K
          try simp only [Act.put, List.setIfInBounds_toArray, List.set_cons_zero, List.set_cons_succ]
          refine ready_two (i := 2) (j := 5) rfl rfl (by kernel_rfl) (fun K hK => ?_) (fun K hK => ?_)
          · obtain ⟨v24, x24, r24, o24, q24, y24⟩ := run_app_row (w4.drew.alloc (.cells #[] 27)) w4.heap.size (.slice (some ⟨w4.heap.size, 0, none⟩) 0 0) [] g 0 t.length c t a23 (HT4.out _ b23) (by simp) (by omega) b23.size
            refine step_append (s := .tmp 21) (x := .tmp 22) rfl rfl r24 ?_
            have b24 : Below w4.heap.size w4 x24 := b23.grown q24 b23.size (fun g hg => (GOwn.ge a23 g hg).1)
            have a24 : MOwn x24 w4.heap.size v24 t := by simpa using o24
            refine hK.out _ x24 b24 (fun hHeld => ?_)
            clear hK K
            try simp only [Act.put, List.setIfInBounds_toArray, List.set_cons_zero, List.set_cons_succ]
            refine ready_one (i := 5) rfl (by kernel_rfl) (fun K hK => ?_)
            go_simp
            have b25 : Below w4.heap.size w4 (x24.alloc (.cells #[.int .i64 0, .int .i64 1, .int .i64 2, .int .i64 0] 27)) := b24.alloc b24.size _
            have n25 : QRd (x24.alloc (.cells #[.int .i64 0, .int .i64 1, .int .i64 2, .int .i64 0] 27)) (.slice (some ⟨x24.heap.size, 0, none⟩) 2 2) [(0, 1), (2, 0)] := by have h := GOwn.rd qC_len (mlit2 x24 w4.heap.size b24.size 0 1 2 0); exact h
            have a25 := MOwn.allocd a24 (.cells #[.int .i64 0, .int .i64 1, .int .i64 2, .int .i64 0] 27)
            have e25 : v24.ownBlock ≠ some x24.heap.size := fun e => by have h := (GOwn.ge a24 _ e).2; first | omega | (simp at h; done) | (simp at h; omega)
            refine hK.out _ (x24.alloc (.cells #[.int .i64 0, .int .i64 1, .int .i64 2, .int .i64 0] 27)) b25 (fun hHeld => ?_)
            clear hK K
            try simp only [Act.put, List.setIfInBounds_toArray, List.set_cons_zero, List.set_cons_succ]
            refine ready_one (i := 6) rfl (by kernel_rfl) (fun K hK => ?_)
            obtain ⟨v26, x26, r26, o26, q26, y26⟩ := run_app_row (x24.alloc (.cells #[.int .i64 0, .int .i64 1, .int .i64 2, .int .i64 0] 27)) w4.heap.size v24 t x24.heap.size 0 2 2 [(0, 1), (2, 0)] a25 n25 (by omega) (by simp) b25.size
            refine step_append (s := .tmp 23) (x := .tmp 26) rfl rfl r26 ?_
            have b26 : Below w4.heap.size w4 x26 := b25.grown q26 b25.size (fun g hg => (GOwn.ge a25 g hg).1)
            have a26 : MOwn x26 w4.heap.size v26 (t ++ [(0, 1), (2, 0)]) := o26
            refine hK.out _ x26 b26 (fun hHeld => ?_)
            clear hK K
            try simp only [Act.put, List.setIfInBounds_toArray, List.set_cons_zero, List.set_cons_succ]
            refine take_in (i := 7) (v := ?_) rfl (by kernel_rfl) (fun _ _ _ h => h) rfl ?_ hHeld ?_
            rotate_left
            · intro w hSw; go_simp; all_goals with_reducible rfl
            try simp only [Act.put, List.setIfInBounds_toArray, List.set_cons_zero, List.set_cons_succ]
            refine wpAnyH_done (by kernel_rfl) ?_ _
            have o9 := a26
            rw [show t ++ [((0 : Int), (1 : Int)), (2, 0)] = t ++ [(0, 1)] ++ [(2, 0)] from by simp] at o9
            obtain ⟨g9, c9, rfl, -⟩ := MOwn.form o9 (by simp)
            have hl9 : (t ++ [((0 : Int), (1 : Int))] ++ [((2 : Int), (0 : Int))]).length = t.length + 2 := by simp
            rw [hl9] at o9 ⊢
            go_wp2
            go_meet
            exact ⟨g9, c9, rfl, o9, b26⟩
          · go_simp
            have b27 : Below w4.heap.size w4 ((w4.drew.alloc (.cells #[] 27)).alloc (.cells #[.int .i64 0, .int .i64 1, .int .i64 2, .int .i64 0] 27)) := b23.alloc b23.size _
            have n27 : QRd ((w4.drew.alloc (.cells #[] 27)).alloc (.cells #[.int .i64 0, .int .i64 1, .int .i64 2, .int .i64 0] 27)) (.slice (some ⟨w4.heap.size + 1, 0, none⟩) 2 2) [(0, 1), (2, 0)] := by have h := GOwn.rd qC_len (mlit2 (w4.drew.alloc (.cells #[] 27)) w4.heap.size b23.size 0 1 2 0); rwa [show (w4.drew.alloc (.cells #[] 27)).heap.size = w4.heap.size + 1 by simp] at h
            have a27 := MOwn.allocd a23 (.cells #[.int .i64 0, .int .i64 1, .int .i64 2, .int .i64 0] 27)
            have e27 : (Value.slice (some ⟨w4.heap.size, 0, none⟩) 0 0).ownBlock ≠ some (w4.heap.size + 1) := fun e => by have h := (GOwn.ge a23 _ e).2; first | omega | (simp at h; done) | (simp at h; omega)
            refine hK.out _ ((w4.drew.alloc (.cells #[] 27)).alloc (.cells #[.int .i64 0, .int .i64 1, .int .i64 2, .int .i64 0] 27)) b27 (fun hHeld => ?_)
            clear hK K
            try simp only [Act.put, List.setIfInBounds_toArray, List.set_cons_zero, List.set_cons_succ]
            refine ready_one (i := 2) rfl (by kernel_rfl) (fun K hK => ?_)
            obtain ⟨v28, x28, r28, o28, q28, y28⟩ := run_app_row ((w4.drew.alloc (.cells #[] 27)).alloc (.cells #[.int .i64 0, .int .i64 1, .int .i64 2, .int .i64 0] 27)) w4.heap.size (.slice (some ⟨w4.heap.size, 0, none⟩) 0 0) [] g 0 t.length c t a27 (HT4.out _ b27) (by simp) (by omega) b27.size
            refine step_append (s := .tmp 21) (x := .tmp 22) rfl rfl r28 ?_
            have b28 : Below w4.heap.size w4 x28 := b27.grown q28 b27.size (fun g hg => (GOwn.ge a27 g hg).1)
            have a28 : MOwn x28 w4.heap.size v28 t := by simpa using o28
            have n28 := GRd.keep n27 (SameAt.of_grown q28 (.inr (fun e => e27 e.symm)))
            have e28 : v28.ownBlock ≠ some (w4.heap.size + 1) := by
              rcases y28 with y | y
              · rw [y]; exact e27
              · rw [y]; intro e; have h := Option.some.inj e; have h2 := GRd.blk n27; omega
            refine hK.out _ x28 b28 (fun hHeld => ?_)
            clear hK K
            try simp only [Act.put, List.setIfInBounds_toArray, List.set_cons_zero, List.set_cons_succ]
            refine ready_one (i := 6) rfl (by kernel_rfl) (fun K hK => ?_)
            obtain ⟨v29, x29, r29, o29, q29, y29⟩ := run_app_row x28 w4.heap.size v28 t (w4.heap.size + 1) 0 2 2 [(0, 1), (2, 0)] a28 n28 (by omega) (by simp) b28.size
            refine step_append (s := .tmp 23) (x := .tmp 26) rfl rfl r29 ?_
            have b29 : Below w4.heap.size w4 x29 := b28.grown q29 b28.size (fun g hg => (GOwn.ge a28 g hg).1)
            have a29 : MOwn x29 w4.heap.size v29 (t ++ [(0, 1), (2, 0)]) := o29
            refine hK.out _ x29 b29 (fun hHeld => ?_)
            clear hK K
            try simp only [Act.put, List.setIfInBounds_toArray, List.set_cons_zero, List.set_cons_succ]
            refine take_in (i := 7) (v := ?_) rfl (by kernel_rfl) (fun _ _ _ h => h) rfl ?_ hHeld ?_
            rotate_left
            · intro w hSw; go_simp; all_goals with_reducible rfl
            try simp only [Act.put, List.setIfInBounds_toArray, List.set_cons_zero, List.set_cons_succ]
            refine wpAnyH_done (by kernel_rfl) ?_ _
            have o9 := a29
            rw [show t ++ [((0 : Int), (1 : Int)), (2, 0)] = t ++ [(0, 1)] ++ [(2, 0)] from by simp] at o9
            obtain ⟨g9, c9, rfl, -⟩ := MOwn.form o9 (by simp)
            have hl9 : (t ++ [((0 : Int), (1 : Int))] ++ [((2 : Int), (0 : Int))]).length = t.length + 2 := by simp
            rw [hl9] at o9 ⊢
            go_wp2
            go_meet
            exact ⟨g9, c9, rfl, o9, b29⟩
        · go_simp
          have b30 : Below w4.heap.size w4 (w4.drew.alloc (.cells #[.int .i64 0, .int .i64 1, .int .i64 2, .int .i64 0] 27)) := hb0.alloc hb0.size _
          have n30 : QRd (w4.drew.alloc (.cells #[.int .i64 0, .int .i64 1, .int .i64 2, .int .i64 0] 27)) (.slice (some ⟨w4.heap.size, 0, none⟩) 2 2) [(0, 1), (2, 0)] := by have h := GOwn.rd qC_len (mlit2 w4.drew w4.heap.size hb0.size 0 1 2 0); exact h
          refine hK.out _ (w4.drew.alloc (.cells #[.int .i64 0, .int .i64 1, .int .i64 2, .int .i64 0] 27)) b30 (fun hHeld => ?_)
          clear hK K
          try simp only [Act.put, List.setIfInBounds_toArray, List.set_cons_zero, List.set_cons_succ]
          refine ready_one (i := 0) rfl (by kernel_rfl) (fun K hK => ?_)
          go_simp
          have b31 : Below w4.heap.size w4 ((w4.drew.alloc (.cells #[.int .i64 0, .int .i64 1, .int .i64 2, .int .i64 0] 27)).alloc (.cells #[] 27)) := b30.alloc b30.size _
          have a31 : MOwn ((w4.drew.alloc (.cells #[.int .i64 0, .int .i64 1, .int .i64 2, .int .i64 0] 27)).alloc (.cells #[] 27)) w4.heap.size (.slice (some ⟨w4.heap.size + 1, 0, none⟩) 0 0) [] := by have h := mlit0 (w4.drew.alloc (.cells #[.int .i64 0, .int .i64 1, .int .i64 2, .int .i64 0] 27)) w4.heap.size b30.size; rwa [show (w4.drew.alloc (.cells #[.int .i64 0, .int .i64 1, .int .i64 2, .int .i64 0] 27)).heap.size = w4.heap.size + 1 by simp] at h
          have n31 := QRd.allocd n30 (.cells #[] 27)
          have e31 : (Value.slice (some ⟨w4.heap.size + 1, 0, none⟩) 0 0).ownBlock ≠ some w4.heap.size := by intro e; have h : w4.heap.size + 1 = w4.heap.size := Option.some.inj e; omega
          refine hK.out _ ((w4.drew.alloc (.cells #[.int .i64 0, .int .i64 1, .int .i64 2, .int .i64 0] 27)).alloc (.cells #[] 27)) b31 (fun hHeld => ?_)
          clear hK K
          try simp only [Act.put, List.setIfInBounds_toArray, List.set_cons_zero, List.set_cons_succ]
          refine ready_one (i := 2) rfl (by kernel_rfl) (fun K hK => ?_)
          obtain ⟨v32, x32, r32, o32, q32, y32⟩ := run_app_row ((w4.drew.alloc (.cells #[.int .i64 0, .int .i64 1, .int .i64 2, .int .i64 0] 27)).alloc (.cells #[] 27)) w4.heap.size (.slice (some ⟨w4.heap.size + 1, 0, none⟩) 0 0) [] g 0 t.length c t a31 (HT4.out _ b31) (by simp) (by omega) b31.size
          refine step_append (s := .tmp 21) (x := .tmp 22) rfl rfl r32 ?_
          have b32 : Below w4.heap.size w4 x32 := b31.grown q32 b31.size (fun g hg => (GOwn.ge a31 g hg).1)
          have a32 : MOwn x32 w4.heap.size v32 t := by simpa using o32
          have n32 := GRd.keep n31 (SameAt.of_grown q32 (.inr (fun e => e31 e.symm)))
          have e32 : v32.ownBlock ≠ some w4.heap.size := by
            rcases y32 with y | y
            · rw [y]; exact e31
            · rw [y]; intro e; have h := Option.some.inj e; have h2 := GRd.blk n31; omega
          refine hK.out _ x32 b32 (fun hHeld => ?_)
          clear hK K
          try simp only [Act.put, List.setIfInBounds_toArray, List.set_cons_zero, List.set_cons_succ]
          refine ready_one (i := 6) rfl (by kernel_rfl) (fun K hK => ?_)
          obtain ⟨v33, x33, r33, o33, q33, y33⟩ := run_app_row x32 w4.heap.size v32 t w4.heap.size 0 2 2 [(0, 1), (2, 0)] a32 n32 (by omega) (by simp) b32.size
          refine step_append (s := .tmp 23) (x := .tmp 26) rfl rfl r33 ?_
          have b33 : Below w4.heap.size w4 x33 := b32.grown q33 b32.size (fun g hg => (GOwn.ge a32 g hg).1)
          have a33 : MOwn x33 w4.heap.size v33 (t ++ [(0, 1), (2, 0)]) := o33
          refine hK.out _ x33 b33 (fun hHeld => ?_)
          clear hK K
          try simp only [Act.put, List.setIfInBounds_toArray, List.set_cons_zero, List.set_cons_succ]
          refine take_in (i := 7) (v := ?_) rfl (by kernel_rfl) (fun _ _ _ h => h) rfl ?_ hHeld ?_
          rotate_left
          · intro w hSw; go_simp; all_goals with_reducible rfl
          try simp only [Act.put, List.setIfInBounds_toArray, List.set_cons_zero, List.set_cons_succ]
          refine wpAnyH_done (by kernel_rfl) ?_ _
          have o9 := a33
          rw [show t ++ [((0 : Int), (1 : Int)), (2, 0)] = t ++ [(0, 1)] ++ [(2, 0)] from by simp] at o9
          obtain ⟨g9, c9, rfl, -⟩ := MOwn.form o9 (by simp)
          have hl9 : (t ++ [((0 : Int), (1 : Int))] ++ [((2 : Int), (0 : Int))]).length = t.length + 2 := by simp
          rw [hl9] at o9 ⊢
          go_wp2
          go_meet
          exact ⟨g9, c9, rfl, o9, b33⟩
      case rest =>
        obtain ⟨g6, c6, rfl, o6, b6⟩ := hcut
        obtain ⟨wd, hwd⟩ : ∃ wd, wd = wc := ⟨_, rfl⟩
        subst hwd
        have HA6 : Hid (MOwn wd w4.heap.size (.slice (some ⟨g6, 0, none⟩) (t.length + 2) c6) (t ++ [(0, 1)] ++ [(2, 0)])) := Lib.hid o6
        have HW6 := Lib.hid b6
        have HT6 : Hid (∀ wr, Below wd.heap.size wd wr → QRd wr (.slice (some ⟨g, 0, none⟩) t.length c) t) := Lib.hid (fun wr hb => HT4.out wr (below_step HW6.out hb HW6.out.size))
        have HC6 : Hid (∀ wr, Below wd.heap.size wd wr → wr.cell? ⟨w3.heap.size, 0, none⟩ = some (.int .i64 0) ∧ wr.cell? ⟨w3.heap.size, 1, none⟩ = some (.int .i64 1)) := Lib.hid (fun wr hb => HC4.out wr (below_step HW6.out hb HW6.out.size))
        clear o6 b6 HT4 HC4
        go_upto_region 9 with fail
        go_cut [7] (fun s wx => ∃ (g9 c9 : Nat), s = .slice (some ⟨g9, 0, none⟩) (t.length + 2) c9 ∧ MOwn wx wd.heap.size (.slice (some ⟨g9, 0, none⟩) (t.length + 2) c9) (t ++ [(0, 1)] ++ [(3, 0)]) ∧ Below wd.heap.size wd wx)
        case first =>
          have hb0 : Below wd.heap.size wd wd.drew := (Below.refl _ _).drew
          refine wp_region_held_drew (S := fun w' => Below wd.heap.size wd w') (by kernel_rfl) hb0 (fun hHeld => ?_)
          refine take_in (i := 1) (v := ?_) rfl (by kernel_rfl) (fun _ _ _ h => h) rfl ?_ hHeld ?_
          rotate_left
          · intro w hSw; go_simp; all_goals with_reducible rfl
          try simp only [Act.put, List.setIfInBounds_toArray, List.set_cons_zero, List.set_cons_succ]
          refine take_in (i := 3) (v := ?_) rfl (by kernel_rfl) (fun _ _ _ h => h) rfl ?_ hHeld ?_
          rotate_left
          · intro w hSw; obtain ⟨d0, d1⟩ := HC6.out w hSw; go_simp; all_goals with_reducible rfl
          try simp only [Act.put, List.setIfInBounds_toArray, List.set_cons_zero, List.set_cons_succ]
          refine take_in (i := 4) (v := ?_) rfl (by kernel_rfl) (fun _ _ _ h => h) rfl ?_ hHeld ?_
          rotate_left
          · intro w hSw; go_simp; all_goals with_reducible rfl
          try simp only [Act.put, List.setIfInBounds_toArray, List.set_cons_zero, List.set_cons_succ]
          refine ready_two (i := 0) (j := 5) rfl rfl (by kernel_rfl) (fun K hK => ?_) (fun K hK => ?_)
          · go_simp
            have b34 : Below wd.heap.size wd (wd.drew.alloc (.cells #[] 27)) := hb0.alloc hb0.size _
            have a34 : MOwn (wd.drew.alloc (.cells #[] 27)) wd.heap.size (.slice (some ⟨wd.heap.size, 0, none⟩) 0 0) [] := by have h := mlit0 wd.drew wd.heap.size hb0.size; exact h
            refine hK.out _ (wd.drew.alloc (.cells #[] 27)) b34 (fun hHeld => ?_)
            clear hK K
            try simp only [Act.put, List.setIfInBounds_toArray, List.set_cons_zero, List.set_cons_succ]
            refine ready_two (i := 2) (j := 5) rfl rfl (by kernel_rfl) (fun K hK => ?_) (fun K hK => ?_)
            · obtain ⟨v35, x35, r35, o35, q35, y35⟩ := run_app_row (wd.drew.alloc (.cells #[] 27)) wd.heap.size (.slice (some ⟨wd.heap.size, 0, none⟩) 0 0) [] g 0 t.length c t a34 (HT6.out _ b34) (by simp) (by omega) b34.size
              refine step_append (s := .tmp 28) (x := .tmp 29) rfl rfl r35 ?_
              have b35 : Below wd.heap.size wd x35 := b34.grown q35 b34.size (fun g hg => (GOwn.ge a34 g hg).1)
              have a35 : MOwn x35 wd.heap.size v35 t := by simpa using o35
              refine hK.out _ x35 b35 (fun hHeld => ?_)
              clear hK K
              try simp only [Act.put, List.setIfInBounds_toArray, List.set_cons_zero, List.set_cons_succ]
              refine ready_one (i := 5) rfl (by kernel_rfl) (fun K hK => ?_)
              go_simp
              have b36 : Below wd.heap.size wd (x35.alloc (.cells #[.int .i64 0, .int .i64 1, .int .i64 3, .int .i64 0] 27)) := b35.alloc b35.size _
              have n36 : QRd (x35.alloc (.cells #[.int .i64 0, .int .i64 1, .int .i64 3, .int .i64 0] 27)) (.slice (some ⟨x35.heap.size, 0, none⟩) 2 2) [(0, 1), (3, 0)] := by have h := GOwn.rd qC_len (mlit2 x35 wd.heap.size b35.size 0 1 3 0); exact h
              have a36 := MOwn.allocd a35 (.cells #[.int .i64 0, .int .i64 1, .int .i64 3, .int .i64 0] 27)
              have e36 : v35.ownBlock ≠ some x35.heap.size := fun e => by have h := (GOwn.ge a35 _ e).2; first | omega | (simp at h; done) | (simp at h; omega)
              refine hK.out _ (x35.alloc (.cells #[.int .i64 0, .int .i64 1, .int .i64 3, .int .i64 0] 27)) b36 (fun hHeld => ?_)
              clear hK K
              try simp only [Act.put, List.setIfInBounds_toArray, List.set_cons_zero, List.set_cons_succ]
              refine ready_one (i := 6) rfl (by kernel_rfl) (fun K hK => ?_)
              obtain ⟨v37, x37, r37, o37, q37, y37⟩ := run_app_row (x35.alloc (.cells #[.int .i64 0, .int .i64 1, .int .i64 3, .int .i64 0] 27)) wd.heap.size v35 t x35.heap.size 0 2 2 [(0, 1), (3, 0)] a36 n36 (by omega) (by simp) b36.size
              refine step_append (s := .tmp 30) (x := .tmp 33) rfl rfl r37 ?_
              have b37 : Below wd.heap.size wd x37 := b36.grown q37 b36.size (fun g hg => (GOwn.ge a36 g hg).1)
              have a37 : MOwn x37 wd.heap.size v37 (t ++ [(0, 1), (3, 0)]) := o37
              refine hK.out _ x37 b37 (fun hHeld => ?_)
              clear hK K
              try simp only [Act.put, List.setIfInBounds_toArray, List.set_cons_zero, List.set_cons_succ]
              refine take_in (i := 7) (v := ?_) rfl (by kernel_rfl) (fun _ _ _ h => h) rfl ?_ hHeld ?_
              rotate_left
              · intro w hSw; go_simp; all_goals with_reducible rfl
              try simp only [Act.put, List.setIfInBounds_toArray, List.set_cons_zero, List.set_cons_succ]
              refine wpAnyH_done (by kernel_rfl) ?_ _
              have o9 := a37
              rw [show t ++ [((0 : Int), (1 : Int)), (3, 0)] = t ++ [(0, 1)] ++ [(3, 0)] from by simp] at o9
              obtain ⟨g9, c9, rfl, -⟩ := MOwn.form o9 (by simp)
              have hl9 : (t ++ [((0 : Int), (1 : Int))] ++ [((3 : Int), (0 : Int))]).length = t.length + 2 := by simp
              rw [hl9] at o9 ⊢
              go_wp2
              go_meet
              exact ⟨g9, c9, rfl, o9, b37⟩
            · go_simp
              have b38 : Below wd.heap.size wd ((wd.drew.alloc (.cells #[] 27)).alloc (.cells #[.int .i64 0, .int .i64 1, .int .i64 3, .int .i64 0] 27)) := b34.alloc b34.size _
              have n38 : QRd ((wd.drew.alloc (.cells #[] 27)).alloc (.cells #[.int .i64 0, .int .i64 1, .int .i64 3, .int .i64 0] 27)) (.slice (some ⟨wd.heap.size + 1, 0, none⟩) 2 2) [(0, 1), (3, 0)] := by have h := GOwn.rd qC_len (mlit2 (wd.drew.alloc (.cells #[] 27)) wd.heap.size b34.size 0 1 3 0); rwa [show (wd.drew.alloc (.cells #[] 27)).heap.size = wd.heap.size + 1 by simp] at h
              have a38 := MOwn.allocd a34 (.cells #[.int .i64 0, .int .i64 1, .int .i64 3, .int .i64 0] 27)
              have e38 : (Value.slice (some ⟨wd.heap.size, 0, none⟩) 0 0).ownBlock ≠ some (wd.heap.size + 1) := fun e => by have h := (GOwn.ge a34 _ e).2; first | omega | (simp at h; done) | (simp at h; omega)
              refine hK.out _ ((wd.drew.alloc (.cells #[] 27)).alloc (.cells #[.int .i64 0, .int .i64 1, .int .i64 3, .int .i64 0] 27)) b38 (fun hHeld => ?_)
              clear hK K
              try simp only [Act.put, List.setIfInBounds_toArray, List.set_cons_zero, List.set_cons_succ]
              refine ready_one (i := 2) rfl (by kernel_rfl) (fun K hK => ?_)
              obtain ⟨v39, x39, r39, o39, q39, y39⟩ := run_app_row ((wd.drew.alloc (.cells #[] 27)).alloc (.cells #[.int .i64 0, .int .i64 1, .int .i64 3, .int .i64 0] 27)) wd.heap.size (.slice (some ⟨wd.heap.size, 0, none⟩) 0 0) [] g 0 t.length c t a38 (HT6.out _ b38) (by simp) (by omega) b38.size
              refine step_append (s := .tmp 28) (x := .tmp 29) rfl rfl r39 ?_
              have b39 : Below wd.heap.size wd x39 := b38.grown q39 b38.size (fun g hg => (GOwn.ge a38 g hg).1)
              have a39 : MOwn x39 wd.heap.size v39 t := by simpa using o39
              have n39 := GRd.keep n38 (SameAt.of_grown q39 (.inr (fun e => e38 e.symm)))
              have e39 : v39.ownBlock ≠ some (wd.heap.size + 1) := by
                rcases y39 with y | y
                · rw [y]; exact e38
                · rw [y]; intro e; have h := Option.some.inj e; have h2 := GRd.blk n38; omega
              refine hK.out _ x39 b39 (fun hHeld => ?_)
              clear hK K
              try simp only [Act.put, List.setIfInBounds_toArray, List.set_cons_zero, List.set_cons_succ]
              refine ready_one (i := 6) rfl (by kernel_rfl) (fun K hK => ?_)
              obtain ⟨v40, x40, r40, o40, q40, y40⟩ := run_app_row x39 wd.heap.size v39 t (wd.heap.size + 1) 0 2 2 [(0, 1), (3, 0)] a39 n39 (by omega) (by simp) b39.size
              refine step_append (s := .tmp 30) (x := .tmp 33) rfl rfl r40 ?_
              have b40 : Below wd.heap.size wd x40 := b39.grown q40 b39.size (fun g hg => (GOwn.ge a39 g hg).1)
              have a40 : MOwn x40 wd.heap.size v40 (t ++ [(0, 1), (3, 0)]) := o40
              refine hK.out _ x40 b40 (fun hHeld => ?_)
              clear hK K
              try simp only [Act.put, List.setIfInBounds_toArray, List.set_cons_zero, List.set_cons_succ]
              refine take_in (i := 7) (v := ?_) rfl (by kernel_rfl) (fun _ _ _ h => h) rfl ?_ hHeld ?_
              rotate_left
              · intro w hSw; go_simp; all_goals with_reducible rfl
              try simp only [Act.put, List.setIfInBounds_toArray, List.set_cons_zero, List.set_cons_succ]
              refine wpAnyH_done (by kernel_rfl) ?_ _
              have o9 := a40
              rw [show t ++ [((0 : Int), (1 : Int)), (3, 0)] = t ++ [(0, 1)] ++ [(3, 0)] from by simp] at o9
              obtain ⟨g9, c9, rfl, -⟩ := MOwn.form o9 (by simp)
              have hl9 : (t ++ [((0 : Int), (1 : Int))] ++ [((3 : Int), (0 : Int))]).length = t.length + 2 := by simp
              rw [hl9] at o9 ⊢
              go_wp2
              go_meet
              exact ⟨g9, c9, rfl, o9, b40⟩
          · go_simp
            have b41 : Below wd.heap.size wd (wd.drew.alloc (.cells #[.int .i64 0, .int .i64 1, .int .i64 3, .int .i64 0] 27)) := hb0.alloc hb0.size _
            have n41 : QRd (wd.drew.alloc (.cells #[.int .i64 0, .int .i64 1, .int .i64 3, .int .i64 0] 27)) (.slice (some ⟨wd.heap.size, 0, none⟩) 2 2) [(0, 1), (3, 0)] := by have h := GOwn.rd qC_len (mlit2 wd.drew wd.heap.size hb0.size 0 1 3 0); exact h
            refine hK.out _ (wd.drew.alloc (.cells #[.int .i64 0, .int .i64 1, .int .i64 3, .int .i64 0] 27)) b41 (fun hHeld => ?_)
            clear hK K
            try simp only [Act.put, List.setIfInBounds_toArray, List.set_cons_zero, List.set_cons_succ]
            refine ready_one (i := 0) rfl (by kernel_rfl) (fun K hK => ?_)
            go_simp
            have b42 : Below wd.heap.size wd ((wd.drew.alloc (.cells #[.int .i64 0, .int .i64 1, .int .i64 3, .int .i64 0] 27)).alloc (.cells #[] 27)) := b41.alloc b41.size _
            have a42 : MOwn ((wd.drew.alloc (.cells #[.int .i64 0, .int .i64 1, .int .i64 3, .int .i64 0] 27)).alloc (.cells #[] 27)) wd.heap.size (.slice (some ⟨wd.heap.size + 1, 0, none⟩) 0 0) [] := by have h := mlit0 (wd.drew.alloc (.cells #[.int .i64 0, .int .i64 1, .int .i64 3, .int .i64 0] 27)) wd.heap.size b41.size; rwa [show (wd.drew.alloc (.cells #[.int .i64 0, .int .i64 1, .int .i64 3, .int .i64 0] 27)).heap.size = wd.heap.size + 1 by simp] at h
            have n42 := QRd.allocd n41 (.cells #[] 27)
            have e42 : (Value.slice (some ⟨wd.heap.size + 1, 0, none⟩) 0 0).ownBlock ≠ some wd.heap.size := by intro e; have h : wd.heap.size + 1 = wd.heap.size := Option.some.inj e; omega
            refine hK.out _ ((wd.drew.alloc (.cells #[.int .i64 0, .int .i64 1, .int .i64 3, .int .i64 0] 27)).alloc (.cells #[] 27)) b42 (fun hHeld => ?_)
            clear hK K
            try simp only [Act.put, List.setIfInBounds_toArray, List.set_cons_zero, List.set_cons_succ]
            refine ready_one (i := 2) rfl (by kernel_rfl) (fun K hK => ?_)
            obtain ⟨v43, x43, r43, o43, q43, y43⟩ := run_app_row ((wd.drew.alloc (.cells #[.int .i64 0, .int .i64 1, .int .i64 3, .int .i64 0] 27)).alloc (.cells #[] 27)) wd.heap.size (.slice (some ⟨wd.heap.size + 1, 0, none⟩) 0 0) [] g 0 t.length c t a42 (HT6.out _ b42) (by simp) (by omega) b42.size
            refine step_append (s := .tmp 28) (x := .tmp 29) rfl rfl r43 ?_
            have b43 : Below wd.heap.size wd x43 := b42.grown q43 b42.size (fun g hg => (GOwn.ge a42 g hg).1)
            have a43 : MOwn x43 wd.heap.size v43 t := by simpa using o43
            have n43 := GRd.keep n42 (SameAt.of_grown q43 (.inr (fun e => e42 e.symm)))
            have e43 : v43.ownBlock ≠ some wd.heap.size := by
              rcases y43 with y | y
              · rw [y]; exact e42
              · rw [y]; intro e; have h := Option.some.inj e; have h2 := GRd.blk n42; omega
            refine hK.out _ x43 b43 (fun hHeld => ?_)
            clear hK K
            try simp only [Act.put, List.setIfInBounds_toArray, List.set_cons_zero, List.set_cons_succ]
            refine ready_one (i := 6) rfl (by kernel_rfl) (fun K hK => ?_)
            obtain ⟨v44, x44, r44, o44, q44, y44⟩ := run_app_row x43 wd.heap.size v43 t wd.heap.size 0 2 2 [(0, 1), (3, 0)] a43 n43 (by omega) (by simp) b43.size
            refine step_append (s := .tmp 30) (x := .tmp 33) rfl rfl r44 ?_
            have b44 : Below wd.heap.size wd x44 := b43.grown q44 b43.size (fun g hg => (GOwn.ge a43 g hg).1)
            have a44 : MOwn x44 wd.heap.size v44 (t ++ [(0, 1), (3, 0)]) := o44
            refine hK.out _ x44 b44 (fun hHeld => ?_)
            clear hK K
            try simp only [Act.put, List.setIfInBounds_toArray, List.set_cons_zero, List.set_cons_succ]
            refine take_in (i := 7) (v := ?_) rfl (by kernel_rfl) (fun _ _ _ h => h) rfl ?_ hHeld ?_
            rotate_left
            · intro w hSw; go_simp; all_goals with_reducible rfl
            try simp only [Act.put, List.setIfInBounds_toArray, List.set_cons_zero, List.set_cons_succ]
            refine wpAnyH_done (by kernel_rfl) ?_ _
            have o9 := a44
            rw [show t ++ [((0 : Int), (1 : Int)), (3, 0)] = t ++ [(0, 1)] ++ [(3, 0)] from by simp] at o9
            obtain ⟨g9, c9, rfl, -⟩ := MOwn.form o9 (by simp)
            have hl9 : (t ++ [((0 : Int), (1 : Int))] ++ [((3 : Int), (0 : Int))]).length = t.length + 2 := by simp
            rw [hl9] at o9 ⊢
            go_wp2
            go_meet
            exact ⟨g9, c9, rfl, o9, b44⟩
        case rest =>
          obtain ⟨g7, c7, rfl, o7, b7⟩ := hcut
          have HA7 : Hid (MOwn wc wd.heap.size (.slice (some ⟨g7, 0, none⟩) (t.length + 2) c7) (t ++ [(0, 1)] ++ [(3, 0)])) := Lib.hid o7
          have HW7 := Lib.hid b7
          clear o7 b7
          have HTT : Hid (∀ wr, Below wc.heap.size wc wr → QRd wr (.slice (some ⟨g, 0, none⟩) t.length c) t) := Lib.hid (fun wr hb => HT6.out wr (below_step HW7.out hb HW7.out.size))
          have HCC : Hid (∀ wr, Below wc.heap.size wc wr → wr.cell? ⟨w3.heap.size, 0, none⟩ = some (.int .i64 0) ∧ wr.cell? ⟨w3.heap.size, 1, none⟩ = some (.int .i64 1)) := Lib.hid (fun wr hb => HC6.out wr (below_step HW7.out hb HW7.out.size))
          have HWW : Hid (Below w.heap.size w wc) := Lib.hid (below_step (below_step HB4.out HW6.out HB4.out.size) HW7.out (Nat.le_trans HB4.out.size HW6.out.size))
          have HX6 : Hid (MOwn wc w4.heap.size (.slice (some ⟨g6, 0, none⟩) (t.length + 2) c6) (t ++ [(0, 1)] ++ [(2, 0)])) := Lib.hid (HA6.out.keep (SameAt.of_below HW7.out))
          clear HA6 HT6 HC6 HW6 HW7 HB4
          have HE := Lib.hid (mlit0 wc wc.heap.size (Nat.le_refl _))
          have HR := Lib.hid (HTT.out _ ((Below.refl _ wc).alloc (Nat.le_refl _) (.cells #[] 27)))
          go_wp2_with (at_builtin; refine wp_app_row rfl _ _ rfl _ wc.heap.size _ [] g 0 _ c t (by rfl) HE.out (by rfl) HR.out ?a1 ?a2 ?a3 ?_)
          case a1 => simp
          case a2 => omega
          case a3 => simp
          intro v6 w6 o6 q6 _ y6
          have HB6 : Hid (Below wc.heap.size wc w6) := Lib.hid (((Below.refl _ wc).alloc (Nat.le_refl _) _).grown q6 (by simp) (fun g hg => (GOwn.ge HE.out g hg).1))
          have HO6 : Hid (MOwn w6 wc.heap.size v6 t) := Lib.hid (by simpa using o6)
          clear o6 q6 y6 HE HR
          go_wp2_with (at_builtin; refine wp_app_mark rfl _ _ rfl _ wc.heap.size _ _ _ _ (by rfl) HO6.out (by rfl) ?b1 ?b2 ?_)
          case b1 => omega
          case b2 => exact HB6.out.size
          intro v8 w8 o8 b8 nn8
          have HB8 : Hid (Below wc.heap.size wc w8) := Lib.hid (HB6.out.trans b8)
          have HO8 : Hid (MOwn w8 wc.heap.size v8 (t ++ [(1, 0)])) := Lib.hid o8
          clear o8 b8 nn8 HO6 HB6
          have HD8 : Hid (Below w.heap.size w w8) := Lib.hid (below_step HWW.out HB8.out HWW.out.size)
          have HG8 : Hid (Below wc.heap.size wc w8) := HB8
          obtain ⟨hc0, hc1⟩ := HCC.out _ HG8.out
          go_wp2_with fail
          refine (implTermOk_any (w8.alloc (.cells #[.int .i64 0, .int .i64 1] 27)) _ [(0, 1)] (GOwn.rd qC_len (mlit1 w8 0 (Nat.zero_le _) 0 1))).mono ?_
          rintro e w9 ⟨rfl, b9⟩
          rw [show tmB [(0, 1)] = true from by decide]
          have HD9 := Lib.hid (below_step (HD8.out.alloc HD8.out.size _) b9 (Nat.le_trans HD8.out.size (by simp)))
          have HG9 := Lib.hid (below_step (HG8.out.alloc HG8.out.size _) b9 (Nat.le_trans HG8.out.size (by simp)))
          clear b9
          clear hc0 hc1
          go_wp2_with fail
          refine (implTermOk_any (w9.alloc (.cells #[.int .i64 0, .int .i64 0] 27)) _ [(0, 0)] (GOwn.rd qC_len (mlit1 w9 0 (Nat.zero_le _) 0 0))).mono ?_
          rintro e w10 ⟨rfl, b10⟩
          rw [show tmB [(0, 0)] = true from by decide]
          have HD10 := Lib.hid (below_step (HD9.out.alloc HD9.out.size _) b10 (Nat.le_trans HD9.out.size (by simp)))
          have HG10 := Lib.hid (below_step (HG9.out.alloc HG9.out.size _) b10 (Nat.le_trans HG9.out.size (by simp)))
          clear b10
          go_wp2_with fail
          refine (implTermOk_any (w10.alloc (.cells #[] 27)) _ [] (GOwn.rd qC_len (mlit0 w10 0 (Nat.zero_le _)))).mono ?_
          rintro e w11 ⟨rfl, b11⟩
          rw [show tmB [] = false from by decide]
          have HD11 := Lib.hid (below_step (HD10.out.alloc HD10.out.size _) b11 (Nat.le_trans HD10.out.size (by simp)))
          clear b11
          go_wp2_with fail
          refine (alive_any _).mono ?_
          rintro e w' ⟨rfl, rfl⟩
          go_wp2_with fail
          go_ret
          exact ⟨rfl, HD11.out⟩

set_option maxRecDepth 100000 in
set_option maxHeartbeats 16000000 in
theorem FnEventOfTerm_walk (a0 : Option Addr) (len0 cap0 : Nat) (z0 : List Int) (w : World) (w0 : IsRowC .u8 w a0 len0 cap0 z0) :
    Calls Try.prog 4 #[.slice a0 len0 cap0] w fun e w' => e = .returned (.bool true) ∧ Below w.heap.size w w' := by
  by_cases hlen : 1048576 < len0
  · clear w0
    go_enter Try.func4, Try.ntmps4
    go_wp2
    go_ret
    exact ⟨rfl, Below.refl _ _⟩
  · have hlen' : decide (1048576 < len0) = false := by simpa using hlen
    go_enter Try.func4, Try.ntmps4
    go_wp2_with fail
    refine (drawEventOfTerm_any _ _ _ _ _ w0).mono ?_
    rintro e w1 ⟨g, n, c, t, rfl, o1, rfl, l1, B1⟩
    clear hlen hlen' w0
    have HK1 : Hid (MOwn w1 w.heap.size (.slice (some ⟨g, 0, none⟩) t.length c) t ∧ Below w.heap.size w w1) := Lib.hid ⟨o1, B1⟩
    clear o1 B1
    rcases Bool.eq_false_or_eq_true (tmB t) with h | h
    · obtain ⟨n, n16, en, eb, enn⟩ := ev_yes h
      have HEB := Lib.hid eb
      have HEN := Lib.hid enn
      have HX : Hid (tmB (t ++ [(0, 1)] ++ [(2, 0)]) = true ∧ tmB (t ++ [(0, 1)] ++ [(3, 0)]) = true ∧ tmB (t ++ [(1, 0)]) = true) := Lib.hid (tm_ext h (by omega))
      clear eb enn h
      go_wp2_with fail
      refine (implEventOfTerm_any w1 _ t (HK1.out.1.rd qC_len)).mono ?_
      rintro e w2 ⟨rfl, b2⟩
      rw [en]
      have HK2 : Hid (MOwn w2 w.heap.size (.slice (some ⟨g, 0, none⟩) t.length c) t ∧ Below w.heap.size w w2) := Lib.hid ⟨HK1.out.1.keep (SameAt.of_below b2), below_step HK1.out.2 b2 HK1.out.2.size⟩
      clear b2
      go_wp2_with fail
      refine (specEventOfTerm_any w2 _ t (HK2.out.1.rd qC_len)).mono ?_
      rintro e w3 ⟨rfl, b3⟩
      rw [en]
      have HK3 : Hid (MOwn w3 w.heap.size (.slice (some ⟨g, 0, none⟩) t.length c) t ∧ Below w.heap.size w w3) := Lib.hid ⟨HK2.out.1.keep (SameAt.of_below b3), below_step HK2.out.2 b3 HK2.out.2.size⟩
      clear b3
      clear en
      have hn0 : (0 : Int) ≤ (n : Int) := by omega
      have HB4 : Hid (Below w.heap.size w (w3.alloc (.cells #[.int .i64 0, .int .i64 1] 27))) := Lib.hid (HK3.out.2.alloc HK3.out.2.size _)
      have HC4 : Hid (∀ wr, Below (w3.alloc (.cells #[.int .i64 0, .int .i64 1] 27)).heap.size (w3.alloc (.cells #[.int .i64 0, .int .i64 1] 27)) wr → wr.cell? ⟨w3.heap.size, 0, none⟩ = some (.int .i64 0) ∧ wr.cell? ⟨w3.heap.size, 1, none⟩ = some (.int .i64 1)) := Lib.hid (letter_cells w3)
      have HT4 : Hid (∀ wr, Below (w3.alloc (.cells #[.int .i64 0, .int .i64 1] 27)).heap.size (w3.alloc (.cells #[.int .i64 0, .int .i64 1] 27)) wr → QRd wr (.slice (some ⟨g, 0, none⟩) t.length c) t) := Lib.hid (fun wr hb => (GOwn.rd qC_len (HK3.out.1.allocd _)).keep (SameAt.of_below hb))
      clear HK1 HK2 HK3
      go_upto_region 10 with fail
      generalize w3.alloc (.cells #[.int .i64 0, .int .i64 1] 27) = w4 at HB4 HC4 HT4 ⊢
      go_cut [6] (fun s wx => ∃ (g9 c9 : Nat), s = .slice (some ⟨g9, 0, none⟩) (t.length + 2) c9 ∧ MOwn wx w4.heap.size (.slice (some ⟨g9, 0, none⟩) (t.length + 2) c9) (t ++ [(0, 1)] ++ [(2, 0)]) ∧ Below w4.heap.size w4 wx)
      case first =>
        have hb0 : Below w4.heap.size w4 w4.drew := (Below.refl _ _).drew
        refine wp_region_held_drew (S := fun w' => Below w4.heap.size w4 w') (by kernel_rfl) hb0 (fun hHeld => ?_)
        refine take_in (i := 1) (v := ?_) rfl (by kernel_rfl) (fun _ _ _ h => h) rfl ?_ hHeld ?_
        rotate_left
        · intro w hSw; go_simp; all_goals with_reducible rfl
        try simp only [Act.put, List.setIfInBounds_toArray, List.set_cons_zero, List.set_cons_succ]
        refine take_in (i := 3) (v := ?_) rfl (by kernel_rfl) (fun _ _ _ h => h) rfl ?_ hHeld ?_
        rotate_left
        · intro w hSw; obtain ⟨d0, d1⟩ := HC4.out w hSw; go_simp; all_goals with_reducible rfl
        try simp only [Act.put, List.setIfInBounds_toArray, List.set_cons_zero, List.set_cons_succ]
        refine take_in (i := 4) (v := ?_) rfl (by kernel_rfl) (fun _ _ _ h => h) rfl ?_ hHeld ?_
        rotate_left
        · intro w hSw; go_simp; all_goals with_reducible rfl
        try simp only [Act.put, List.setIfInBounds_toArray, List.set_cons_zero, List.set_cons_succ]
        refine ready_two (i := 0) (j := 5) rfl rfl (by kernel_rfl) (fun K hK => ?_) (fun K hK => ?_)
        · go_simp
          have b45 : Below w4.heap.size w4 (w4.drew.alloc (.cells #[] 27)) := hb0.alloc hb0.size _
          have a45 : MOwn (w4.drew.alloc (.cells #[] 27)) w4.heap.size (.slice (some ⟨w4.heap.size, 0, none⟩) 0 0) [] := by have h := mlit0 w4.drew w4.heap.size hb0.size; exact h
          refine hK.out _ (w4.drew.alloc (.cells #[] 27)) b45 (fun hHeld => ?_)
          clear hK K
          try simp only [Act.put, List.setIfInBounds_toArray, List.set_cons_zero, List.set_cons_succ]
          refine ready_two (i := 2) (j := 5) rfl rfl (by kernel_rfl) (fun K hK => ?_) (fun K hK => ?_)
          · obtain ⟨v46, x46, r46, o46, q46, y46⟩ := run_app_row (w4.drew.alloc (.cells #[] 27)) w4.heap.size (.slice (some ⟨w4.heap.size, 0, none⟩) 0 0) [] g 0 t.length c t a45 (HT4.out _ b45) (by simp) (by omega) b45.size
            refine step_append (s := .tmp 33) (x := .tmp 34) rfl rfl r46 ?_
            have b46 : Below w4.heap.size w4 x46 := b45.grown q46 b45.size (fun g hg => (GOwn.ge a45 g hg).1)
            have a46 : MOwn x46 w4.heap.size v46 t := by simpa using o46
            refine hK.out _ x46 b46 (fun hHeld => ?_)
            clear hK K
            try simp only [Act.put, List.setIfInBounds_toArray, List.set_cons_zero, List.set_cons_succ]
            refine ready_one (i := 5) rfl (by kernel_rfl) (fun K hK => ?_)
            go_simp
            have b47 : Below w4.heap.size w4 (x46.alloc (.cells #[.int .i64 0, .int .i64 1, .int .i64 2, .int .i64 0] 27)) := b46.alloc b46.size _
            have n47 : QRd (x46.alloc (.cells #[.int .i64 0, .int .i64 1, .int .i64 2, .int .i64 0] 27)) (.slice (some ⟨x46.heap.size, 0, none⟩) 2 2) [(0, 1), (2, 0)] := by have h := GOwn.rd qC_len (mlit2 x46 w4.heap.size b46.size 0 1 2 0); exact h
            have a47 := MOwn.allocd a46 (.cells #[.int .i64 0, .int .i64 1, .int .i64 2, .int .i64 0] 27)
            have e47 : v46.ownBlock ≠ some x46.heap.size := fun e => by have h := (GOwn.ge a46 _ e).2; first | omega | (simp at h; done) | (simp at h; omega)
            refine hK.out _ (x46.alloc (.cells #[.int .i64 0, .int .i64 1, .int .i64 2, .int .i64 0] 27)) b47 (fun hHeld => ?_)
            clear hK K
            try simp only [Act.put, List.setIfInBounds_toArray, List.set_cons_zero, List.set_cons_succ]
            refine ready_one (i := 6) rfl (by kernel_rfl) (fun K hK => ?_)
            obtain ⟨v48, x48, r48, o48, q48, y48⟩ := run_app_row (x46.alloc (.cells #[.int .i64 0, .int .i64 1, .int .i64 2, .int .i64 0] 27)) w4.heap.size v46 t x46.heap.size 0 2 2 [(0, 1), (2, 0)] a47 n47 (by omega) (by simp) b47.size
            refine step_append (s := .tmp 35) (x := .tmp 38) rfl rfl r48 ?_
            have b48 : Below w4.heap.size w4 x48 := b47.grown q48 b47.size (fun g hg => (GOwn.ge a47 g hg).1)
            have a48 : MOwn x48 w4.heap.size v48 (t ++ [(0, 1), (2, 0)]) := o48
            refine hK.out _ x48 b48 (fun hHeld => ?_)
            clear hK K
            try simp only [Act.put, List.setIfInBounds_toArray, List.set_cons_zero, List.set_cons_succ]
            refine take_in (i := 7) (v := ?_) rfl (by kernel_rfl) (fun _ _ _ h => h) rfl ?_ hHeld ?_
            rotate_left
            · intro w hSw; go_simp; all_goals with_reducible rfl
            try simp only [Act.put, List.setIfInBounds_toArray, List.set_cons_zero, List.set_cons_succ]
            refine wpAnyH_done (by kernel_rfl) ?_ _
            have o9 := a48
            rw [show t ++ [((0 : Int), (1 : Int)), (2, 0)] = t ++ [(0, 1)] ++ [(2, 0)] from by simp] at o9
            obtain ⟨g9, c9, rfl, -⟩ := MOwn.form o9 (by simp)
            have hl9 : (t ++ [((0 : Int), (1 : Int))] ++ [((2 : Int), (0 : Int))]).length = t.length + 2 := by simp
            rw [hl9] at o9 ⊢
            go_wp2
            go_meet
            exact ⟨g9, c9, rfl, o9, b48⟩
          · go_simp
            have b49 : Below w4.heap.size w4 ((w4.drew.alloc (.cells #[] 27)).alloc (.cells #[.int .i64 0, .int .i64 1, .int .i64 2, .int .i64 0] 27)) := b45.alloc b45.size _
            have n49 : QRd ((w4.drew.alloc (.cells #[] 27)).alloc (.cells #[.int .i64 0, .int .i64 1, .int .i64 2, .int .i64 0] 27)) (.slice (some ⟨w4.heap.size + 1, 0, none⟩) 2 2) [(0, 1), (2, 0)] := by have h := GOwn.rd qC_len (mlit2 (w4.drew.alloc (.cells #[] 27)) w4.heap.size b45.size 0 1 2 0); rwa [show (w4.drew.alloc (.cells #[] 27)).heap.size = w4.heap.size + 1 by simp] at h
            have a49 := MOwn.allocd a45 (.cells #[.int .i64 0, .int .i64 1, .int .i64 2, .int .i64 0] 27)
            have e49 : (Value.slice (some ⟨w4.heap.size, 0, none⟩) 0 0).ownBlock ≠ some (w4.heap.size + 1) := fun e => by have h := (GOwn.ge a45 _ e).2; first | omega | (simp at h; done) | (simp at h; omega)
            refine hK.out _ ((w4.drew.alloc (.cells #[] 27)).alloc (.cells #[.int .i64 0, .int .i64 1, .int .i64 2, .int .i64 0] 27)) b49 (fun hHeld => ?_)
            clear hK K
            try simp only [Act.put, List.setIfInBounds_toArray, List.set_cons_zero, List.set_cons_succ]
            refine ready_one (i := 2) rfl (by kernel_rfl) (fun K hK => ?_)
            obtain ⟨v50, x50, r50, o50, q50, y50⟩ := run_app_row ((w4.drew.alloc (.cells #[] 27)).alloc (.cells #[.int .i64 0, .int .i64 1, .int .i64 2, .int .i64 0] 27)) w4.heap.size (.slice (some ⟨w4.heap.size, 0, none⟩) 0 0) [] g 0 t.length c t a49 (HT4.out _ b49) (by simp) (by omega) b49.size
            refine step_append (s := .tmp 33) (x := .tmp 34) rfl rfl r50 ?_
            have b50 : Below w4.heap.size w4 x50 := b49.grown q50 b49.size (fun g hg => (GOwn.ge a49 g hg).1)
            have a50 : MOwn x50 w4.heap.size v50 t := by simpa using o50
            have n50 := GRd.keep n49 (SameAt.of_grown q50 (.inr (fun e => e49 e.symm)))
            have e50 : v50.ownBlock ≠ some (w4.heap.size + 1) := by
              rcases y50 with y | y
              · rw [y]; exact e49
              · rw [y]; intro e; have h := Option.some.inj e; have h2 := GRd.blk n49; omega
            refine hK.out _ x50 b50 (fun hHeld => ?_)
            clear hK K
            try simp only [Act.put, List.setIfInBounds_toArray, List.set_cons_zero, List.set_cons_succ]
            refine ready_one (i := 6) rfl (by kernel_rfl) (fun K hK => ?_)
            obtain ⟨v51, x51, r51, o51, q51, y51⟩ := run_app_row x50 w4.heap.size v50 t (w4.heap.size + 1) 0 2 2 [(0, 1), (2, 0)] a50 n50 (by omega) (by simp) b50.size
            refine step_append (s := .tmp 35) (x := .tmp 38) rfl rfl r51 ?_
            have b51 : Below w4.heap.size w4 x51 := b50.grown q51 b50.size (fun g hg => (GOwn.ge a50 g hg).1)
            have a51 : MOwn x51 w4.heap.size v51 (t ++ [(0, 1), (2, 0)]) := o51
            refine hK.out _ x51 b51 (fun hHeld => ?_)
            clear hK K
            try simp only [Act.put, List.setIfInBounds_toArray, List.set_cons_zero, List.set_cons_succ]
            refine take_in (i := 7) (v := ?_) rfl (by kernel_rfl) (fun _ _ _ h => h) rfl ?_ hHeld ?_
            rotate_left
            · intro w hSw; go_simp; all_goals with_reducible rfl
            try simp only [Act.put, List.setIfInBounds_toArray, List.set_cons_zero, List.set_cons_succ]
            refine wpAnyH_done (by kernel_rfl) ?_ _
            have o9 := a51
            rw [show t ++ [((0 : Int), (1 : Int)), (2, 0)] = t ++ [(0, 1)] ++ [(2, 0)] from by simp] at o9
            obtain ⟨g9, c9, rfl, -⟩ := MOwn.form o9 (by simp)
            have hl9 : (t ++ [((0 : Int), (1 : Int))] ++ [((2 : Int), (0 : Int))]).length = t.length + 2 := by simp
            rw [hl9] at o9 ⊢
            go_wp2
            go_meet
            exact ⟨g9, c9, rfl, o9, b51⟩
        · go_simp
          have b52 : Below w4.heap.size w4 (w4.drew.alloc (.cells #[.int .i64 0, .int .i64 1, .int .i64 2, .int .i64 0] 27)) := hb0.alloc hb0.size _
          have n52 : QRd (w4.drew.alloc (.cells #[.int .i64 0, .int .i64 1, .int .i64 2, .int .i64 0] 27)) (.slice (some ⟨w4.heap.size, 0, none⟩) 2 2) [(0, 1), (2, 0)] := by have h := GOwn.rd qC_len (mlit2 w4.drew w4.heap.size hb0.size 0 1 2 0); exact h
          refine hK.out _ (w4.drew.alloc (.cells #[.int .i64 0, .int .i64 1, .int .i64 2, .int .i64 0] 27)) b52 (fun hHeld => ?_)
          clear hK K
          try simp only [Act.put, List.setIfInBounds_toArray, List.set_cons_zero, List.set_cons_succ]
          refine ready_one (i := 0) rfl (by kernel_rfl) (fun K hK => ?_)
          go_simp
          have b53 : Below w4.heap.size w4 ((w4.drew.alloc (.cells #[.int .i64 0, .int .i64 1, .int .i64 2, .int .i64 0] 27)).alloc (.cells #[] 27)) := b52.alloc b52.size _
          have a53 : MOwn ((w4.drew.alloc (.cells #[.int .i64 0, .int .i64 1, .int .i64 2, .int .i64 0] 27)).alloc (.cells #[] 27)) w4.heap.size (.slice (some ⟨w4.heap.size + 1, 0, none⟩) 0 0) [] := by have h := mlit0 (w4.drew.alloc (.cells #[.int .i64 0, .int .i64 1, .int .i64 2, .int .i64 0] 27)) w4.heap.size b52.size; rwa [show (w4.drew.alloc (.cells #[.int .i64 0, .int .i64 1, .int .i64 2, .int .i64 0] 27)).heap.size = w4.heap.size + 1 by simp] at h
          have n53 := QRd.allocd n52 (.cells #[] 27)
          have e53 : (Value.slice (some ⟨w4.heap.size + 1, 0, none⟩) 0 0).ownBlock ≠ some w4.heap.size := by intro e; have h : w4.heap.size + 1 = w4.heap.size := Option.some.inj e; omega
          refine hK.out _ ((w4.drew.alloc (.cells #[.int .i64 0, .int .i64 1, .int .i64 2, .int .i64 0] 27)).alloc (.cells #[] 27)) b53 (fun hHeld => ?_)
          clear hK K
          try simp only [Act.put, List.setIfInBounds_toArray, List.set_cons_zero, List.set_cons_succ]
          refine ready_one (i := 2) rfl (by kernel_rfl) (fun K hK => ?_)
          obtain ⟨v54, x54, r54, o54, q54, y54⟩ := run_app_row ((w4.drew.alloc (.cells #[.int .i64 0, .int .i64 1, .int .i64 2, .int .i64 0] 27)).alloc (.cells #[] 27)) w4.heap.size (.slice (some ⟨w4.heap.size + 1, 0, none⟩) 0 0) [] g 0 t.length c t a53 (HT4.out _ b53) (by simp) (by omega) b53.size
          refine step_append (s := .tmp 33) (x := .tmp 34) rfl rfl r54 ?_
          have b54 : Below w4.heap.size w4 x54 := b53.grown q54 b53.size (fun g hg => (GOwn.ge a53 g hg).1)
          have a54 : MOwn x54 w4.heap.size v54 t := by simpa using o54
          have n54 := GRd.keep n53 (SameAt.of_grown q54 (.inr (fun e => e53 e.symm)))
          have e54 : v54.ownBlock ≠ some w4.heap.size := by
            rcases y54 with y | y
            · rw [y]; exact e53
            · rw [y]; intro e; have h := Option.some.inj e; have h2 := GRd.blk n53; omega
          refine hK.out _ x54 b54 (fun hHeld => ?_)
          clear hK K
          try simp only [Act.put, List.setIfInBounds_toArray, List.set_cons_zero, List.set_cons_succ]
          refine ready_one (i := 6) rfl (by kernel_rfl) (fun K hK => ?_)
          obtain ⟨v55, x55, r55, o55, q55, y55⟩ := run_app_row x54 w4.heap.size v54 t w4.heap.size 0 2 2 [(0, 1), (2, 0)] a54 n54 (by omega) (by simp) b54.size
          refine step_append (s := .tmp 35) (x := .tmp 38) rfl rfl r55 ?_
          have b55 : Below w4.heap.size w4 x55 := b54.grown q55 b54.size (fun g hg => (GOwn.ge a54 g hg).1)
          have a55 : MOwn x55 w4.heap.size v55 (t ++ [(0, 1), (2, 0)]) := o55
          refine hK.out _ x55 b55 (fun hHeld => ?_)
          clear hK K
          try simp only [Act.put, List.setIfInBounds_toArray, List.set_cons_zero, List.set_cons_succ]
          refine take_in (i := 7) (v := ?_) rfl (by kernel_rfl) (fun _ _ _ h => h) rfl ?_ hHeld ?_
          rotate_left
          · intro w hSw; go_simp; all_goals with_reducible rfl
          try simp only [Act.put, List.setIfInBounds_toArray, List.set_cons_zero, List.set_cons_succ]
          refine wpAnyH_done (by kernel_rfl) ?_ _
          have o9 := a55
          rw [show t ++ [((0 : Int), (1 : Int)), (2, 0)] = t ++ [(0, 1)] ++ [(2, 0)] from by simp] at o9
          obtain ⟨g9, c9, rfl, -⟩ := MOwn.form o9 (by simp)
          have hl9 : (t ++ [((0 : Int), (1 : Int))] ++ [((2 : Int), (0 : Int))]).length = t.length + 2 := by simp
          rw [hl9] at o9 ⊢
          go_wp2
          go_meet
          exact ⟨g9, c9, rfl, o9, b55⟩
      case rest =>
        obtain ⟨g6, c6, rfl, o6, b6⟩ := hcut
        obtain ⟨wd, hwd⟩ : ∃ wd, wd = wc := ⟨_, rfl⟩
        subst hwd
        have HA6 : Hid (MOwn wd w4.heap.size (.slice (some ⟨g6, 0, none⟩) (t.length + 2) c6) (t ++ [(0, 1)] ++ [(2, 0)])) := Lib.hid o6
        have HW6 := Lib.hid b6
        have HT6 : Hid (∀ wr, Below wd.heap.size wd wr → QRd wr (.slice (some ⟨g, 0, none⟩) t.length c) t) := Lib.hid (fun wr hb => HT4.out wr (below_step HW6.out hb HW6.out.size))
        have HC6 : Hid (∀ wr, Below wd.heap.size wd wr → wr.cell? ⟨w3.heap.size, 0, none⟩ = some (.int .i64 0) ∧ wr.cell? ⟨w3.heap.size, 1, none⟩ = some (.int .i64 1)) := Lib.hid (fun wr hb => HC4.out wr (below_step HW6.out hb HW6.out.size))
        clear o6 b6 HT4 HC4
        go_upto_region 11 with fail
        go_cut [7] (fun s wx => ∃ (g9 c9 : Nat), s = .slice (some ⟨g9, 0, none⟩) (t.length + 2) c9 ∧ MOwn wx wd.heap.size (.slice (some ⟨g9, 0, none⟩) (t.length + 2) c9) (t ++ [(0, 1)] ++ [(3, 0)]) ∧ Below wd.heap.size wd wx)
        case first =>
          have hb0 : Below wd.heap.size wd wd.drew := (Below.refl _ _).drew
          refine wp_region_held_drew (S := fun w' => Below wd.heap.size wd w') (by kernel_rfl) hb0 (fun hHeld => ?_)
          refine take_in (i := 1) (v := ?_) rfl (by kernel_rfl) (fun _ _ _ h => h) rfl ?_ hHeld ?_
          rotate_left
          · intro w hSw; go_simp; all_goals with_reducible rfl
          try simp only [Act.put, List.setIfInBounds_toArray, List.set_cons_zero, List.set_cons_succ]
          refine take_in (i := 3) (v := ?_) rfl (by kernel_rfl) (fun _ _ _ h => h) rfl ?_ hHeld ?_
          rotate_left
          · intro w hSw; obtain ⟨d0, d1⟩ := HC6.out w hSw; go_simp; all_goals with_reducible rfl
          try simp only [Act.put, List.setIfInBounds_toArray, List.set_cons_zero, List.set_cons_succ]
          refine take_in (i := 4) (v := ?_) rfl (by kernel_rfl) (fun _ _ _ h => h) rfl ?_ hHeld ?_
          rotate_left
          · intro w hSw; go_simp; all_goals with_reducible rfl
          try simp only [Act.put, List.setIfInBounds_toArray, List.set_cons_zero, List.set_cons_succ]
          refine ready_two (i := 0) (j := 5) rfl rfl (by kernel_rfl) (fun K hK => ?_) (fun K hK => ?_)
          · go_simp
            have b56 : Below wd.heap.size wd (wd.drew.alloc (.cells #[] 27)) := hb0.alloc hb0.size _
            have a56 : MOwn (wd.drew.alloc (.cells #[] 27)) wd.heap.size (.slice (some ⟨wd.heap.size, 0, none⟩) 0 0) [] := by have h := mlit0 wd.drew wd.heap.size hb0.size; exact h
            refine hK.out _ (wd.drew.alloc (.cells #[] 27)) b56 (fun hHeld => ?_)
            clear hK K
            try simp only [Act.put, List.setIfInBounds_toArray, List.set_cons_zero, List.set_cons_succ]
            refine ready_two (i := 2) (j := 5) rfl rfl (by kernel_rfl) (fun K hK => ?_) (fun K hK => ?_)
            · obtain ⟨v57, x57, r57, o57, q57, y57⟩ := run_app_row (wd.drew.alloc (.cells #[] 27)) wd.heap.size (.slice (some ⟨wd.heap.size, 0, none⟩) 0 0) [] g 0 t.length c t a56 (HT6.out _ b56) (by simp) (by omega) b56.size
              refine step_append (s := .tmp 40) (x := .tmp 41) rfl rfl r57 ?_
              have b57 : Below wd.heap.size wd x57 := b56.grown q57 b56.size (fun g hg => (GOwn.ge a56 g hg).1)
              have a57 : MOwn x57 wd.heap.size v57 t := by simpa using o57
              refine hK.out _ x57 b57 (fun hHeld => ?_)
              clear hK K
              try simp only [Act.put, List.setIfInBounds_toArray, List.set_cons_zero, List.set_cons_succ]
              refine ready_one (i := 5) rfl (by kernel_rfl) (fun K hK => ?_)
              go_simp
              have b58 : Below wd.heap.size wd (x57.alloc (.cells #[.int .i64 0, .int .i64 1, .int .i64 3, .int .i64 0] 27)) := b57.alloc b57.size _
              have n58 : QRd (x57.alloc (.cells #[.int .i64 0, .int .i64 1, .int .i64 3, .int .i64 0] 27)) (.slice (some ⟨x57.heap.size, 0, none⟩) 2 2) [(0, 1), (3, 0)] := by have h := GOwn.rd qC_len (mlit2 x57 wd.heap.size b57.size 0 1 3 0); exact h
              have a58 := MOwn.allocd a57 (.cells #[.int .i64 0, .int .i64 1, .int .i64 3, .int .i64 0] 27)
              have e58 : v57.ownBlock ≠ some x57.heap.size := fun e => by have h := (GOwn.ge a57 _ e).2; first | omega | (simp at h; done) | (simp at h; omega)
              refine hK.out _ (x57.alloc (.cells #[.int .i64 0, .int .i64 1, .int .i64 3, .int .i64 0] 27)) b58 (fun hHeld => ?_)
              clear hK K
              try simp only [Act.put, List.setIfInBounds_toArray, List.set_cons_zero, List.set_cons_succ]
              refine ready_one (i := 6) rfl (by kernel_rfl) (fun K hK => ?_)
              obtain ⟨v59, x59, r59, o59, q59, y59⟩ := run_app_row (x57.alloc (.cells #[.int .i64 0, .int .i64 1, .int .i64 3, .int .i64 0] 27)) wd.heap.size v57 t x57.heap.size 0 2 2 [(0, 1), (3, 0)] a58 n58 (by omega) (by simp) b58.size
              refine step_append (s := .tmp 42) (x := .tmp 45) rfl rfl r59 ?_
              have b59 : Below wd.heap.size wd x59 := b58.grown q59 b58.size (fun g hg => (GOwn.ge a58 g hg).1)
              have a59 : MOwn x59 wd.heap.size v59 (t ++ [(0, 1), (3, 0)]) := o59
              refine hK.out _ x59 b59 (fun hHeld => ?_)
              clear hK K
              try simp only [Act.put, List.setIfInBounds_toArray, List.set_cons_zero, List.set_cons_succ]
              refine take_in (i := 7) (v := ?_) rfl (by kernel_rfl) (fun _ _ _ h => h) rfl ?_ hHeld ?_
              rotate_left
              · intro w hSw; go_simp; all_goals with_reducible rfl
              try simp only [Act.put, List.setIfInBounds_toArray, List.set_cons_zero, List.set_cons_succ]
              refine wpAnyH_done (by kernel_rfl) ?_ _
              have o9 := a59
              rw [show t ++ [((0 : Int), (1 : Int)), (3, 0)] = t ++ [(0, 1)] ++ [(3, 0)] from by simp] at o9
              obtain ⟨g9, c9, rfl, -⟩ := MOwn.form o9 (by simp)
              have hl9 : (t ++ [((0 : Int), (1 : Int))] ++ [((3 : Int), (0 : Int))]).length = t.length + 2 := by simp
              rw [hl9] at o9 ⊢
              go_wp2
              go_meet
              exact ⟨g9, c9, rfl, o9, b59⟩
            · go_simp
              have b60 : Below wd.heap.size wd ((wd.drew.alloc (.cells #[] 27)).alloc (.cells #[.int .i64 0, .int .i64 1, .int .i64 3, .int .i64 0] 27)) := b56.alloc b56.size _
              have n60 : QRd ((wd.drew.alloc (.cells #[] 27)).alloc (.cells #[.int .i64 0, .int .i64 1, .int .i64 3, .int .i64 0] 27)) (.slice (some ⟨wd.heap.size + 1, 0, none⟩) 2 2) [(0, 1), (3, 0)] := by have h := GOwn.rd qC_len (mlit2 (wd.drew.alloc (.cells #[] 27)) wd.heap.size b56.size 0 1 3 0); rwa [show (wd.drew.alloc (.cells #[] 27)).heap.size = wd.heap.size + 1 by simp] at h
              have a60 := MOwn.allocd a56 (.cells #[.int .i64 0, .int .i64 1, .int .i64 3, .int .i64 0] 27)
              have e60 : (Value.slice (some ⟨wd.heap.size, 0, none⟩) 0 0).ownBlock ≠ some (wd.heap.size + 1) := fun e => by have h := (GOwn.ge a56 _ e).2; first | omega | (simp at h; done) | (simp at h; omega)
              refine hK.out _ ((wd.drew.alloc (.cells #[] 27)).alloc (.cells #[.int .i64 0, .int .i64 1, .int .i64 3, .int .i64 0] 27)) b60 (fun hHeld => ?_)
              clear hK K
              try simp only [Act.put, List.setIfInBounds_toArray, List.set_cons_zero, List.set_cons_succ]
              refine ready_one (i := 2) rfl (by kernel_rfl) (fun K hK => ?_)
              obtain ⟨v61, x61, r61, o61, q61, y61⟩ := run_app_row ((wd.drew.alloc (.cells #[] 27)).alloc (.cells #[.int .i64 0, .int .i64 1, .int .i64 3, .int .i64 0] 27)) wd.heap.size (.slice (some ⟨wd.heap.size, 0, none⟩) 0 0) [] g 0 t.length c t a60 (HT6.out _ b60) (by simp) (by omega) b60.size
              refine step_append (s := .tmp 40) (x := .tmp 41) rfl rfl r61 ?_
              have b61 : Below wd.heap.size wd x61 := b60.grown q61 b60.size (fun g hg => (GOwn.ge a60 g hg).1)
              have a61 : MOwn x61 wd.heap.size v61 t := by simpa using o61
              have n61 := GRd.keep n60 (SameAt.of_grown q61 (.inr (fun e => e60 e.symm)))
              have e61 : v61.ownBlock ≠ some (wd.heap.size + 1) := by
                rcases y61 with y | y
                · rw [y]; exact e60
                · rw [y]; intro e; have h := Option.some.inj e; have h2 := GRd.blk n60; omega
              refine hK.out _ x61 b61 (fun hHeld => ?_)
              clear hK K
              try simp only [Act.put, List.setIfInBounds_toArray, List.set_cons_zero, List.set_cons_succ]
              refine ready_one (i := 6) rfl (by kernel_rfl) (fun K hK => ?_)
              obtain ⟨v62, x62, r62, o62, q62, y62⟩ := run_app_row x61 wd.heap.size v61 t (wd.heap.size + 1) 0 2 2 [(0, 1), (3, 0)] a61 n61 (by omega) (by simp) b61.size
              refine step_append (s := .tmp 42) (x := .tmp 45) rfl rfl r62 ?_
              have b62 : Below wd.heap.size wd x62 := b61.grown q62 b61.size (fun g hg => (GOwn.ge a61 g hg).1)
              have a62 : MOwn x62 wd.heap.size v62 (t ++ [(0, 1), (3, 0)]) := o62
              refine hK.out _ x62 b62 (fun hHeld => ?_)
              clear hK K
              try simp only [Act.put, List.setIfInBounds_toArray, List.set_cons_zero, List.set_cons_succ]
              refine take_in (i := 7) (v := ?_) rfl (by kernel_rfl) (fun _ _ _ h => h) rfl ?_ hHeld ?_
              rotate_left
              · intro w hSw; go_simp; all_goals with_reducible rfl
              try simp only [Act.put, List.setIfInBounds_toArray, List.set_cons_zero, List.set_cons_succ]
              refine wpAnyH_done (by kernel_rfl) ?_ _
              have o9 := a62
              rw [show t ++ [((0 : Int), (1 : Int)), (3, 0)] = t ++ [(0, 1)] ++ [(3, 0)] from by simp] at o9
              obtain ⟨g9, c9, rfl, -⟩ := MOwn.form o9 (by simp)
              have hl9 : (t ++ [((0 : Int), (1 : Int))] ++ [((3 : Int), (0 : Int))]).length = t.length + 2 := by simp
              rw [hl9] at o9 ⊢
              go_wp2
              go_meet
              exact ⟨g9, c9, rfl, o9, b62⟩
          · go_simp
            have b63 : Below wd.heap.size wd (wd.drew.alloc (.cells #[.int .i64 0, .int .i64 1, .int .i64 3, .int .i64 0] 27)) := hb0.alloc hb0.size _
            have n63 : QRd (wd.drew.alloc (.cells #[.int .i64 0, .int .i64 1, .int .i64 3, .int .i64 0] 27)) (.slice (some ⟨wd.heap.size, 0, none⟩) 2 2) [(0, 1), (3, 0)] := by have h := GOwn.rd qC_len (mlit2 wd.drew wd.heap.size hb0.size 0 1 3 0); exact h
            refine hK.out _ (wd.drew.alloc (.cells #[.int .i64 0, .int .i64 1, .int .i64 3, .int .i64 0] 27)) b63 (fun hHeld => ?_)
            clear hK K
            try simp only [Act.put, List.setIfInBounds_toArray, List.set_cons_zero, List.set_cons_succ]
            refine ready_one (i := 0) rfl (by kernel_rfl) (fun K hK => ?_)
            go_simp
            have b64 : Below wd.heap.size wd ((wd.drew.alloc (.cells #[.int .i64 0, .int .i64 1, .int .i64 3, .int .i64 0] 27)).alloc (.cells #[] 27)) := b63.alloc b63.size _
            have a64 : MOwn ((wd.drew.alloc (.cells #[.int .i64 0, .int .i64 1, .int .i64 3, .int .i64 0] 27)).alloc (.cells #[] 27)) wd.heap.size (.slice (some ⟨wd.heap.size + 1, 0, none⟩) 0 0) [] := by have h := mlit0 (wd.drew.alloc (.cells #[.int .i64 0, .int .i64 1, .int .i64 3, .int .i64 0] 27)) wd.heap.size b63.size; rwa [show (wd.drew.alloc (.cells #[.int .i64 0, .int .i64 1, .int .i64 3, .int .i64 0] 27)).heap.size = wd.heap.size + 1 by simp] at h
            have n64 := QRd.allocd n63 (.cells #[] 27)
            have e64 : (Value.slice (some ⟨wd.heap.size + 1, 0, none⟩) 0 0).ownBlock ≠ some wd.heap.size := by intro e; have h : wd.heap.size + 1 = wd.heap.size := Option.some.inj e; omega
            refine hK.out _ ((wd.drew.alloc (.cells #[.int .i64 0, .int .i64 1, .int .i64 3, .int .i64 0] 27)).alloc (.cells #[] 27)) b64 (fun hHeld => ?_)
            clear hK K
            try simp only [Act.put, List.setIfInBounds_toArray, List.set_cons_zero, List.set_cons_succ]
            refine ready_one (i := 2) rfl (by kernel_rfl) (fun K hK => ?_)
            obtain ⟨v65, x65, r65, o65, q65, y65⟩ := run_app_row ((wd.drew.alloc (.cells #[.int .i64 0, .int .i64 1, .int .i64 3, .int .i64 0] 27)).alloc (.cells #[] 27)) wd.heap.size (.slice (some ⟨wd.heap.size + 1, 0, none⟩) 0 0) [] g 0 t.length c t a64 (HT6.out _ b64) (by simp) (by omega) b64.size
            refine step_append (s := .tmp 40) (x := .tmp 41) rfl rfl r65 ?_
            have b65 : Below wd.heap.size wd x65 := b64.grown q65 b64.size (fun g hg => (GOwn.ge a64 g hg).1)
            have a65 : MOwn x65 wd.heap.size v65 t := by simpa using o65
            have n65 := GRd.keep n64 (SameAt.of_grown q65 (.inr (fun e => e64 e.symm)))
            have e65 : v65.ownBlock ≠ some wd.heap.size := by
              rcases y65 with y | y
              · rw [y]; exact e64
              · rw [y]; intro e; have h := Option.some.inj e; have h2 := GRd.blk n64; omega
            refine hK.out _ x65 b65 (fun hHeld => ?_)
            clear hK K
            try simp only [Act.put, List.setIfInBounds_toArray, List.set_cons_zero, List.set_cons_succ]
            refine ready_one (i := 6) rfl (by kernel_rfl) (fun K hK => ?_)
            obtain ⟨v66, x66, r66, o66, q66, y66⟩ := run_app_row x65 wd.heap.size v65 t wd.heap.size 0 2 2 [(0, 1), (3, 0)] a65 n65 (by omega) (by simp) b65.size
            refine step_append (s := .tmp 42) (x := .tmp 45) rfl rfl r66 ?_
            have b66 : Below wd.heap.size wd x66 := b65.grown q66 b65.size (fun g hg => (GOwn.ge a65 g hg).1)
            have a66 : MOwn x66 wd.heap.size v66 (t ++ [(0, 1), (3, 0)]) := o66
            refine hK.out _ x66 b66 (fun hHeld => ?_)
            clear hK K
            try simp only [Act.put, List.setIfInBounds_toArray, List.set_cons_zero, List.set_cons_succ]
            refine take_in (i := 7) (v := ?_) rfl (by kernel_rfl) (fun _ _ _ h => h) rfl ?_ hHeld ?_
            rotate_left
            · intro w hSw; go_simp; all_goals with_reducible rfl
            try simp only [Act.put, List.setIfInBounds_toArray, List.set_cons_zero, List.set_cons_succ]
            refine wpAnyH_done (by kernel_rfl) ?_ _
            have o9 := a66
            rw [show t ++ [((0 : Int), (1 : Int)), (3, 0)] = t ++ [(0, 1)] ++ [(3, 0)] from by simp] at o9
            obtain ⟨g9, c9, rfl, -⟩ := MOwn.form o9 (by simp)
            have hl9 : (t ++ [((0 : Int), (1 : Int))] ++ [((3 : Int), (0 : Int))]).length = t.length + 2 := by simp
            rw [hl9] at o9 ⊢
            go_wp2
            go_meet
            exact ⟨g9, c9, rfl, o9, b66⟩
        case rest =>
          obtain ⟨g7, c7, rfl, o7, b7⟩ := hcut
          have HA7 : Hid (MOwn wc wd.heap.size (.slice (some ⟨g7, 0, none⟩) (t.length + 2) c7) (t ++ [(0, 1)] ++ [(3, 0)])) := Lib.hid o7
          have HW7 := Lib.hid b7
          clear o7 b7
          have HTT : Hid (∀ wr, Below wc.heap.size wc wr → QRd wr (.slice (some ⟨g, 0, none⟩) t.length c) t) := Lib.hid (fun wr hb => HT6.out wr (below_step HW7.out hb HW7.out.size))
          have HCC : Hid (∀ wr, Below wc.heap.size wc wr → wr.cell? ⟨w3.heap.size, 0, none⟩ = some (.int .i64 0) ∧ wr.cell? ⟨w3.heap.size, 1, none⟩ = some (.int .i64 1)) := Lib.hid (fun wr hb => HC6.out wr (below_step HW7.out hb HW7.out.size))
          have HWW : Hid (Below w.heap.size w wc) := Lib.hid (below_step (below_step HB4.out HW6.out HB4.out.size) HW7.out (Nat.le_trans HB4.out.size HW6.out.size))
          have HX6 : Hid (MOwn wc w4.heap.size (.slice (some ⟨g6, 0, none⟩) (t.length + 2) c6) (t ++ [(0, 1)] ++ [(2, 0)])) := Lib.hid (HA6.out.keep (SameAt.of_below HW7.out))
          clear HA6 HT6 HC6 HW6 HW7 HB4
          have HE := Lib.hid (mlit0 wc wc.heap.size (Nat.le_refl _))
          have HR := Lib.hid (HTT.out _ ((Below.refl _ wc).alloc (Nat.le_refl _) (.cells #[] 27)))
          go_wp2_with (at_builtin; refine wp_app_row rfl _ _ rfl _ wc.heap.size _ [] g 0 _ c t (by rfl) HE.out (by rfl) HR.out ?a1 ?a2 ?a3 ?_)
          case a1 => simp
          case a2 => omega
          case a3 => simp
          intro v6 w6 o6 q6 _ y6
          have HB6 : Hid (Below wc.heap.size wc w6) := Lib.hid (((Below.refl _ wc).alloc (Nat.le_refl _) _).grown q6 (by simp) (fun g hg => (GOwn.ge HE.out g hg).1))
          have HO6 : Hid (MOwn w6 wc.heap.size v6 t) := Lib.hid (by simpa using o6)
          clear o6 q6 y6 HE HR
          go_wp2_with (at_builtin; refine wp_app_mark rfl _ _ rfl _ wc.heap.size _ _ _ _ (by rfl) HO6.out (by rfl) ?b1 ?b2 ?_)
          case b1 => omega
          case b2 => exact HB6.out.size
          intro v8 w8 o8 b8 nn8
          have HB8 : Hid (Below wc.heap.size wc w8) := Lib.hid (HB6.out.trans b8)
          have HO8 : Hid (MOwn w8 wc.heap.size v8 (t ++ [(1, 0)])) := Lib.hid o8
          clear o8 b8 nn8 HO6 HB6
          have HD8 : Hid (Below w.heap.size w w8) := Lib.hid (below_step HWW.out HB8.out HWW.out.size)
          have HG8 : Hid (Below wc.heap.size wc w8) := HB8
          have HQ8 : Hid (Below w8.heap.size w8 w8) := Lib.hid (Below.refl _ _)
          go_wp2_with fail
          refine (specTermOk_any w8 _ _ (GRd.keep (GOwn.rd qC_len HX6.out) (SameAt.of_below HG8.out))).mono ?_
          rintro e w9 ⟨rfl, b9⟩
          rw [HX.out.1]
          have HD9 := Lib.hid (below_step HD8.out b9 HD8.out.size)
          have HG9 := Lib.hid (below_step HG8.out b9 HG8.out.size)
          have HQ9 := Lib.hid (below_step HQ8.out b9 HQ8.out.size)
          clear b9
          go_wp2_with fail
          refine (specTermOk_any w9 v8 _ (GRd.keep (GOwn.rd qC_len HO8.out) (SameAt.of_below HQ9.out))).mono ?_
          rintro e w10 ⟨rfl, b10⟩
          rw [HX.out.2.2]
          have HD10 := Lib.hid (below_step HD9.out b10 HD9.out.size)
          have HG10 := Lib.hid (below_step HG9.out b10 HG9.out.size)
          have HQ10 := Lib.hid (below_step HQ9.out b10 HQ9.out.size)
          clear b10
          go_wp2_with fail
          refine (implEventOfTerm_any w10 v8 _ (GRd.keep (GOwn.rd qC_len HO8.out) (SameAt.of_below HQ10.out))).mono ?_
          rintro e w11 ⟨rfl, b11⟩
          rw [HEN.out HX.out.2.2]
          have HD11 := Lib.hid (below_step HD10.out b11 HD10.out.size)
          have HG11 := Lib.hid (below_step HG10.out b11 HG10.out.size)
          have HQ11 := Lib.hid (below_step HQ10.out b11 HQ10.out.size)
          clear b11
          go_wp2_with fail
          refine (implNotEvent_any _ _ _).mono ?_
          rintro e w' ⟨rfl, rfl⟩
          rw [not_four n16]
          go_wp2_with fail
          refine (implEventOfTerm_any w11 _ _ (GRd.keep (GOwn.rd qC_len HX6.out) (SameAt.of_below HG11.out))).mono ?_
          rintro e w12 ⟨rfl, b12⟩
          rw [(HEB.out HX.out.1).1]
          have HD12 := Lib.hid (below_step HD11.out b12 HD11.out.size)
          have HG12 := Lib.hid (below_step HG11.out b12 HG11.out.size)
          have HQ12 := Lib.hid (below_step HQ11.out b12 HQ11.out.size)
          clear b12
          have hand := and_four n16
          have hor := or_four n16
          go_wp2_with fail
          refine (implEventOfTerm_any w12 _ _ (GRd.keep (GOwn.rd qC_len HA7.out) (SameAt.of_below HG12.out))).mono ?_
          rintro e w13 ⟨rfl, b13⟩
          rw [(HEB.out HX.out.1).2]
          have HD13 := Lib.hid (below_step HD12.out b13 HD12.out.size)
          have HG13 := Lib.hid (below_step HG12.out b13 HG12.out.size)
          have HQ13 := Lib.hid (below_step HQ12.out b13 HQ12.out.size)
          clear b13
          go_wp2_with fail
          go_ret
          exact ⟨rfl, HD13.out⟩
    · have en := evI_no h
      have H := Lib.hid h
      go_wp2_with fail
      refine (implEventOfTerm_any w1 _ t (HK1.out.1.rd qC_len)).mono ?_
      rintro e w2 ⟨rfl, b2⟩
      rw [en]
      have HK2 : Hid (MOwn w2 w.heap.size (.slice (some ⟨g, 0, none⟩) t.length c) t ∧ Below w.heap.size w w2) := Lib.hid ⟨HK1.out.1.keep (SameAt.of_below b2), below_step HK1.out.2 b2 HK1.out.2.size⟩
      clear b2
      go_wp2_with fail
      refine (specEventOfTerm_any w2 _ t (HK2.out.1.rd qC_len)).mono ?_
      rintro e w3 ⟨rfl, b3⟩
      rw [en]
      have HK3 : Hid (MOwn w3 w.heap.size (.slice (some ⟨g, 0, none⟩) t.length c) t ∧ Below w.heap.size w w3) := Lib.hid ⟨HK2.out.1.keep (SameAt.of_below b3), below_step HK2.out.2 b3 HK2.out.2.size⟩
      clear b3
      clear en
      go_wp2_with fail
      refine (implTermOk_any w3 _ t (HK3.out.1.rd qC_len)).mono ?_
      rintro e w4 ⟨rfl, b4⟩
      rw [h]
      have HD4 := Lib.hid (below_step HK3.out.2 b4 HK3.out.2.size)
      clear b4
      go_wp2_with fail
      refine (alive_any _).mono ?_
      rintro e w' ⟨rfl, rfl⟩
      go_wp2_with fail
      go_ret
      exact ⟨rfl, HD4.out⟩

end Go.Proofs.Ytkochmmlcenncaa
