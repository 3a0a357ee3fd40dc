/- The program's machine of marks, runMarks, at phrases. Conditions: rows that read as lists of marks. (gen_xpg.py) -/
import Derived.Test.YtfdlfgokoponmaaDoorXpg
import Derived.OwnWalk
namespace Go.Proofs.YtfdlfgokoponmaaDoor
open Go.RowKit
set_option linter.unusedVariables false
set_option linter.unusedSimpArgs false

set_option maxRecDepth 100000 in
set_option maxHeartbeats 16000000 in
theorem runPh_any (w : World) (v : Value) (t : List Mk) (hv : QRd w v t) :
    Calls Tryd.prog 47 #[v, .func (.func 48) #[] #[]] w (RunPost (fun T => phV (T)) (.agg #[.string ⟨#[]⟩, .int .i64 0]) t w) := by
  obtain ⟨A, c, rfl, hl, hm⟩ := hv.form
  have HV : Hid (∀ w', Below w.heap.size w w' → QRd w' (.slice A t.length c) t) := Lib.hid (fun w' hb => hv.keep (SameAt.of_below hb))
  clear hv
  obtain ⟨w1, hw1⟩ : ∃ w1, ((w.alloc (.cells #[.string ⟨#[]⟩, .int .i64 0] 72)).alloc (.cells #[.string ⟨#[]⟩, .int .i64 0] 72)) = w1 := ⟨_, rfl⟩
  have HB1 : Hid (Below w.heap.size w w1) := Lib.hid (by rw [← hw1]; exact ((Below.refl _ w).alloc (Nat.le_refl _) _).alloc (by simp) _)
  have HZ : Hid (∀ w', Below w1.heap.size w1 w' → w'.cell? ⟨w.heap.size, 0, none⟩ = some (.string ⟨#[]⟩) ∧ w'.cell? ⟨w.heap.size, 1, none⟩ = some (.int .i64 0) ∧ w'.cell? ⟨w.heap.size + 1, 0, none⟩ = some (.string ⟨#[]⟩) ∧ w'.cell? ⟨w.heap.size + 1, 1, none⟩ = some (.int .i64 0) ∧ w'.frozen? ⟨w.heap.size, 0, none⟩ = false ∧ w'.frozen? ⟨w.heap.size, 1, none⟩ = false) := Lib.hid (by
    rw [← hw1]
    intro w' hb
    obtain ⟨b1, b2⟩ := two_boxes hb
    exact ⟨b1.cell 0, b1.cell 1, b2.cell 0, b2.cell 1, b1.frozen 0, b1.frozen 1⟩)
  have HS9 : Hid (∀ w', Below w1.heap.size w1 w' → ∀ u v, ((w'.setCell ⟨w.heap.size, 0, none⟩ u).setCell ⟨w.heap.size, 1, none⟩ v).cell? ⟨w.heap.size, 0, none⟩ = some u ∧ ((w'.setCell ⟨w.heap.size, 0, none⟩ u).setCell ⟨w.heap.size, 1, none⟩ v).cell? ⟨w.heap.size, 1, none⟩ = some v) := Lib.hid (by
    rw [← hw1]
    intro w' hb u v
    exact set_two (two_boxes hb).1 u v)
  have HW1 := Lib.hid hw1
  clear hw1
  by_cases h40 : 40 < t.length
  · have h40' : (40 : Int) < (t.length : Int) := by omega
    have HTF := Lib.hid (run_long h40)
    have HBL : Hid (Below w1.heap.size w1 w1) := Lib.hid (Below.refl _ _)
    go_enter Tryd.func47, Tryd.ntmps47
    go_upto_region 2 with fail
    rw [HW1.out]
    obtain ⟨hz0, hz1, hz2, hz3, hf0, hf1⟩ := HZ.out w1 HBL.out
    have HR9 := Lib.hid (HS9.out w1 HBL.out (.string ⟨#[]⟩) (.int .i64 0))
    go_wp2_with fail
    obtain ⟨hr0, hr1⟩ := HR9.out
    refine bodyPost_ret (v := .tuple #[.agg #[.string ⟨#[]⟩, .int .i64 0], .bool false]) (by simp [results, Tryd.results47, go_sem, hr0, hr1]) rfl ?_
    exact ⟨((HB1.out).setCell (Nat.le_refl _) _).setCell (Nat.le_refl _) _, .inl ⟨HTF.out, rfl⟩⟩
  · have h40' : (t.length : Int) ≤ 40 := by omega
    have H40 : Hid (t.length ≤ 40) := Lib.hid (by omega)
    clear h40
    go_enter Tryd.func47, Tryd.ntmps47
    go_upto_region 2 with fail
    rw [HW1.out]
    go_wp2_with fail
    go_loopw [7, 19] (fun p i wr => ∃ (k : Nat) (st : List Tm) (B : Option Addr) (n cp : Nat), i = .int .i64 (k : Int) ∧ k ≤ t.length ∧ p = .slice B n cp ∧ Hid (run [] (t.take k) = some st) ∧ Hid (GOwn 72 2 phC wr w1.heap.size (.slice B n cp) (st.reverse) ∧ Below w1.heap.size w1 wr)) (fun _ i _ => t.length - (intOf i).toNat)
    case atStart => exact ⟨0, [], none, 0, 0, rfl, Nat.zero_le _, rfl, Lib.hid rfl, Lib.hid ⟨GOwn.nil _ _ _ _ _, Below.refl _ _⟩⟩
    case round =>
      obtain ⟨k, st, B, n, cp, rfl, hk, rfl, HR, HO⟩ := hrel
      have HNL : Hid (n = st.length) := Lib.hid (by
        rcases own_some HO.out.1 with ⟨-, rfl, -, hst⟩ | ⟨g, -, hnl, -⟩
        · rw [List.reverse_eq_nil_iff.1 hst]; rfl
        · rw [hnl, List.length_reverse])
      have HN40 : Hid (n ≤ 40) := Lib.hid (by have h1 := run_size HR.out; have h2 := List.length_take_le k t; have h3 := H40.out; have h4 := HNL.out; simp at h1; omega)
      by_cases hlt : k < t.length
      · obtain ⟨b, off, ⟨mk, ma⟩, rfl, -, hx, hc0, hc1⟩ := QRd.at_ (HV.out wr (below_step HB1.out HO.out.2 HB1.out.size)) hlt
        have HX := Lib.hid hx
        clear hx
        dsimp only at hc0 hc1
        rcases step_cases st (mk, ma) with ⟨b', hm', hs⟩ | ⟨x, s, hm', rfl, hs⟩ | ⟨y, x, s, hm', rfl, hs⟩ | ⟨y, x, s, hm', rfl, hs⟩ | ⟨hs, hbad⟩
        · cases b'
          · obtain ⟨rfl, rfl⟩ : mk = 0 ∧ ma = 0 := Prod.mk.inj hm'
            clear hm'
            have HS := Lib.hid hs
            clear hs
            rcases own_some HO.out.1 with ⟨rfl, rfl, rfl, hst⟩ | ⟨g, rfl, hnl, hncp, hbg, hgl⟩
            · obtain rfl : st = [] := List.reverse_eq_nil_iff.1 hst
              clear hst
              have HLQ : Hid (([] : List Tm).reverse.length = 0) := Lib.hid rfl
              go_wp2_with fail
              refine (parts_a _).mono ?_
              rintro r w7 ⟨rfl, b7⟩
              have HM7 := Lib.hid (mbox b7)
              have HB7 : Hid (Below w1.heap.size w1 w7) := Lib.hid (below_step (HO.out.2.alloc HO.out.2.size (.cells #[.int .i64 0, .int .i64 0] 59)) b7 (by rw [World.size_alloc]; exact Nat.le_succ_of_le HO.out.2.size))
              have HO7 : Hid (GOwn 72 2 phC w7 w1.heap.size (.slice (none) 0 0) (([] : List Tm).reverse)) := Lib.hid ((HO.out.1.keep (SameAt.of_below ((Below.refl _ wr).alloc (Nat.le_refl _) (.cells #[.int .i64 0, .int .i64 0] 59)))).keep (SameAt.of_below b7))
              clear b7
              go_upto_region 12 with fail
              have k0 : (fun w' => Below w1.heap.size w1 w' ∧ (w'.cell? ⟨wr.heap.size, 0, none⟩ = some (.int .i64 0) ∧ w'.cell? ⟨wr.heap.size, 1, none⟩ = some (.int .i64 0))) w7.drew := ⟨HB7.out.drew, HM7.out.cell 0, HM7.out.cell 1⟩
              have o0 : GOwn 72 2 phC w7.drew w1.heap.size (.slice (none) 0 0) (([] : List Tm).reverse) := HO7.out
              refine wp_region_held_drew (S := fun w' => Below w1.heap.size w1 w' ∧ (w'.cell? ⟨wr.heap.size, 0, none⟩ = some (.int .i64 0) ∧ w'.cell? ⟨wr.heap.size, 1, none⟩ = some (.int .i64 0))) (by kernel_rfl) k0 (fun hHeld => ?_)
              refine take_in (i := 0) (v := ?_) rfl (by kernel_rfl) (fun _ _ _ h => h) rfl ?_ hHeld ?_
              rotate_left
              · intro w' hSw; go_simp; all_goals with_reducible rfl
              try simp only [Act.put, List.setIfInBounds_toArray, List.set_cons_zero, List.set_cons_succ]
              refine take_in (i := 1) (v := ?_) rfl (by kernel_rfl) (fun _ _ _ h => h) rfl ?_ hHeld ?_
              rotate_left
              · intro w' hSw; go_simp; all_goals with_reducible rfl
              try simp only [Act.put, List.setIfInBounds_toArray, List.set_cons_zero, List.set_cons_succ]
              refine take_in (i := 2) (v := ?_) rfl (by kernel_rfl) (fun _ _ _ h => h) rfl ?_ hHeld ?_
              rotate_left
              · intro w' hSw; go_simp; all_goals with_reducible rfl
              try simp only [Act.put, List.setIfInBounds_toArray, List.set_cons_zero, List.set_cons_succ]
              refine take_in (i := 3) (v := ?_) rfl (by kernel_rfl) (fun _ _ _ h => h) rfl ?_ hHeld ?_
              rotate_left
              · intro w' hSw; go_simp; all_goals with_reducible rfl
              try simp only [Act.put, List.setIfInBounds_toArray, List.set_cons_zero, List.set_cons_succ]
              refine take_in (i := 4) (v := ?_) rfl (by kernel_rfl) (fun _ _ _ h => h) rfl ?_ hHeld ?_
              rotate_left
              · intro w' hSw; obtain ⟨-, d0, d1⟩ := hSw; go_simp; all_goals with_reducible rfl
              try simp only [Act.put, List.setIfInBounds_toArray, List.set_cons_zero, List.set_cons_succ]
              refine take_in (i := 5) (v := ?_) rfl (by kernel_rfl) (fun _ _ _ h => h) rfl ?_ hHeld ?_
              rotate_left
              · intro w' hSw; go_simp; all_goals with_reducible rfl
              try simp only [Act.put, List.setIfInBounds_toArray, List.set_cons_zero, List.set_cons_succ]
              refine take_in (i := 6) (v := ?_) rfl (by kernel_rfl) (fun _ _ _ h => h) rfl ?_ hHeld ?_
              rotate_left
              · intro w' hSw; go_simp; all_goals with_reducible rfl
              try simp only [Act.put, List.setIfInBounds_toArray, List.set_cons_zero, List.set_cons_succ]
              refine take_in (i := 7) (v := ?_) rfl (by kernel_rfl) (fun _ _ _ h => h) rfl ?_ hHeld ?_
              rotate_left
              · intro w' hSw; go_simp; all_goals with_reducible rfl
              try simp only [Act.put, List.setIfInBounds_toArray, List.set_cons_zero, List.set_cons_succ]
              refine ready_one (i := 8) rfl (by kernel_rfl) (fun K hK => ?_)
              go_simp
              go_at_call 48
              refine (ph_letter false _ _).mono ?_
              rintro r x1 ⟨rfl, b1⟩
              have hm1 : Blk x1 wr.heap.size 59 #[.int .i64 0, .int .i64 0] := (b1.block _ HM7.out.lt).trans HM7.out
              have k1 : (fun w' => Below w1.heap.size w1 w' ∧ (w'.cell? ⟨wr.heap.size, 0, none⟩ = some (.int .i64 0) ∧ w'.cell? ⟨wr.heap.size, 1, none⟩ = some (.int .i64 0))) x1 := ⟨below_step k0.1 b1 k0.1.size, hm1.cell 0, hm1.cell 1⟩
              have o1 : GOwn 72 2 phC x1 w1.heap.size (.slice (none) 0 0) (([] : List Tm).reverse) := o0.keep (SameAt.of_below b1)
              clear b1
              refine hK.out _ x1 (k1) (fun hHeld => ?_)
              clear hK K
              try simp only [Act.put, List.setIfInBounds_toArray, List.set_cons_zero, List.set_cons_succ]
              refine ready_one (i := 9) rfl (by kernel_rfl) (fun K hK => ?_)
              go_simp
              have k2 : (fun w' => Below w1.heap.size w1 w' ∧ (w'.cell? ⟨wr.heap.size, 0, none⟩ = some (.int .i64 0) ∧ w'.cell? ⟨wr.heap.size, 1, none⟩ = some (.int .i64 0))) (x1.alloc (.cells #[.string ⟨(txtT (.lt false)).toArray⟩, .int .i64 (lastM (.lt false)).1] 72)) := ⟨k1.1.alloc k1.1.size _, (World.cell?_of_block (a := ⟨wr.heap.size, 0, none⟩) (Below.heap_alloc x1 _ _ hm1.lt)).trans k1.2.1, (World.cell?_of_block (a := ⟨wr.heap.size, 1, none⟩) (Below.heap_alloc x1 _ _ hm1.lt)).trans k1.2.2⟩
              refine hK.out _ (x1.alloc (.cells #[.string ⟨(txtT (.lt false)).toArray⟩, .int .i64 (lastM (.lt false)).1] 72)) (k2) (fun hHeld => ?_)
              clear hK K
              try simp only [Act.put, List.setIfInBounds_toArray, List.set_cons_zero, List.set_cons_succ]
              refine ready_one (i := 10) rfl (by kernel_rfl) (fun K hK => ?_)
              obtain ⟨g9, c9, x9, r9, o9, q9⟩ := run_app_ph x1 w1.heap.size (.slice (none) 0 0) ([] : List Tm).reverse 0 HLQ.out (.lt false) o1 (by omega) k1.1.size
              refine step_append (s := .tmp 43) (x := .tmp 50) rfl rfl r9 ?_
              have k9 : (fun w' => Below w1.heap.size w1 w' ∧ (w'.cell? ⟨wr.heap.size, 0, none⟩ = some (.int .i64 0) ∧ w'.cell? ⟨wr.heap.size, 1, none⟩ = some (.int .i64 0))) x9 := ⟨k2.1.grown q9 k2.1.size (fun g' hg' => (o1.ge g' hg').1), q9.cell k2.2.1 (by simp [Value.ownBlock]), q9.cell k2.2.2 (by simp [Value.ownBlock])⟩
              refine hK.out _ x9 (k9) (fun hHeld => ?_)
              clear hK K
              try simp only [Act.put, List.setIfInBounds_toArray, List.set_cons_zero, List.set_cons_succ]
              refine take_in (i := 11) (v := ?_) rfl (by kernel_rfl) (fun _ _ _ h => h) rfl ?_ hHeld ?_
              rotate_left
              · intro w' hSw; go_simp; all_goals with_reducible rfl
              try simp only [Act.put, List.setIfInBounds_toArray, List.set_cons_zero, List.set_cons_succ]
              refine wpAnyH_done (by kernel_rfl) ?_ _
              have HF9 : Hid (GOwn 72 2 phC x9 w1.heap.size (.slice (some ⟨g9, 0, none⟩) (0 + 1) c9) ((.lt false :: ([] : List Tm)).reverse) ∧ Below w1.heap.size w1 x9) := Lib.hid ⟨by rw [List.reverse_cons]; exact o9, k9.1⟩
              clear k0 k1 k2 k9 o0 o1 o9 q9 r9 hm1 hHeld
              go_wp2_with fail
              go_roundw
              case rel => exact ⟨k + 1, .lt false :: ([] : List Tm), some ⟨g9, 0, none⟩, 0 + 1, c9, by go_num, by omega, rfl, Lib.hid (by rw [run_take HX.out HR.out]; exact HS.out), HF9⟩
              case measure => simp [intOf]; omega
            · have HLQ : Hid (st.reverse.length = n) := Lib.hid hnl.symm
              have hg1 : ¬ ((n : Int) < 0) := by omega
              have h40q : n ≤ 40 := HN40.out
              have hw : IntKind.i64.wrap ((n : Int) - 0) = (n : Int) := by rw [IntWalk.i64_in _ (by omega)]; omega
              have hw2 : IntKind.i64.wrap (n : Int) = (n : Int) := by rw [IntWalk.i64_in _ (by omega)]
              have hq0 : (0 : Int) ≤ (n : Int) := by omega
              have hqc : (n : Int) ≤ (cp : Int) := by omega
              have HGL := Lib.hid hgl
              clear hnl hgl
              go_wp2_with fail
              refine (parts_a _).mono ?_
              rintro r w7 ⟨rfl, b7⟩
              have HM7 := Lib.hid (mbox b7)
              have HB7 : Hid (Below w1.heap.size w1 w7) := Lib.hid (below_step (HO.out.2.alloc HO.out.2.size (.cells #[.int .i64 0, .int .i64 0] 59)) b7 (by rw [World.size_alloc]; exact Nat.le_succ_of_le HO.out.2.size))
              have HO7 : Hid (GOwn 72 2 phC w7 w1.heap.size (.slice (some ⟨g, 0, none⟩) n cp) (st.reverse)) := Lib.hid ((HO.out.1.keep (SameAt.of_below ((Below.refl _ wr).alloc (Nat.le_refl _) (.cells #[.int .i64 0, .int .i64 0] 59)))).keep (SameAt.of_below b7))
              clear b7
              go_upto_region 12 with fail
              have k0 : (fun w' => Below w1.heap.size w1 w' ∧ (w'.cell? ⟨wr.heap.size, 0, none⟩ = some (.int .i64 0) ∧ w'.cell? ⟨wr.heap.size, 1, none⟩ = some (.int .i64 0))) w7.drew := ⟨HB7.out.drew, HM7.out.cell 0, HM7.out.cell 1⟩
              have o0 : GOwn 72 2 phC w7.drew w1.heap.size (.slice (some ⟨g, 0, none⟩) n cp) (st.reverse) := HO7.out
              refine wp_region_held_drew (S := fun w' => Below w1.heap.size w1 w' ∧ (w'.cell? ⟨wr.heap.size, 0, none⟩ = some (.int .i64 0) ∧ w'.cell? ⟨wr.heap.size, 1, none⟩ = some (.int .i64 0))) (by kernel_rfl) k0 (fun hHeld => ?_)
              refine take_in (i := 0) (v := ?_) rfl (by kernel_rfl) (fun _ _ _ h => h) rfl ?_ hHeld ?_
              rotate_left
              · intro w' hSw; go_simp; all_goals with_reducible rfl
              try simp only [Act.put, List.setIfInBounds_toArray, List.set_cons_zero, List.set_cons_succ]
              refine take_in (i := 1) (v := ?_) rfl (by kernel_rfl) (fun _ _ _ h => h) rfl ?_ hHeld ?_
              rotate_left
              · intro w' hSw; go_simp; all_goals with_reducible rfl
              try simp only [Act.put, List.setIfInBounds_toArray, List.set_cons_zero, List.set_cons_succ]
              refine take_in (i := 2) (v := ?_) rfl (by kernel_rfl) (fun _ _ _ h => h) rfl ?_ hHeld ?_
              rotate_left
              · intro w' hSw; go_simp; all_goals with_reducible rfl
              try simp only [Act.put, List.setIfInBounds_toArray, List.set_cons_zero, List.set_cons_succ]
              refine take_in (i := 3) (v := ?_) rfl (by kernel_rfl) (fun _ _ _ h => h) rfl ?_ hHeld ?_
              rotate_left
              · intro w' hSw; go_simp; all_goals with_reducible rfl
              try simp only [Act.put, List.setIfInBounds_toArray, List.set_cons_zero, List.set_cons_succ]
              refine take_in (i := 4) (v := ?_) rfl (by kernel_rfl) (fun _ _ _ h => h) rfl ?_ hHeld ?_
              rotate_left
              · intro w' hSw; obtain ⟨-, d0, d1⟩ := hSw; go_simp; all_goals with_reducible rfl
              try simp only [Act.put, List.setIfInBounds_toArray, List.set_cons_zero, List.set_cons_succ]
              refine take_in (i := 5) (v := ?_) rfl (by kernel_rfl) (fun _ _ _ h => h) rfl ?_ hHeld ?_
              rotate_left
              · intro w' hSw; go_simp; all_goals with_reducible rfl
              try simp only [Act.put, List.setIfInBounds_toArray, List.set_cons_zero, List.set_cons_succ]
              refine take_in (i := 6) (v := ?_) rfl (by kernel_rfl) (fun _ _ _ h => h) rfl ?_ hHeld ?_
              rotate_left
              · intro w' hSw; go_simp; all_goals with_reducible rfl
              try simp only [Act.put, List.setIfInBounds_toArray, List.set_cons_zero, List.set_cons_succ]
              refine take_in (i := 7) (v := ?_) rfl (by kernel_rfl) (fun _ _ _ h => h) rfl ?_ hHeld ?_
              rotate_left
              · intro w' hSw; go_simp; all_goals with_reducible rfl
              try simp only [Act.put, List.setIfInBounds_toArray, List.set_cons_zero, List.set_cons_succ]
              refine ready_one (i := 8) rfl (by kernel_rfl) (fun K hK => ?_)
              go_simp
              go_at_call 48
              refine (ph_letter false _ _).mono ?_
              rintro r x1 ⟨rfl, b1⟩
              have hm1 : Blk x1 wr.heap.size 59 #[.int .i64 0, .int .i64 0] := (b1.block _ HM7.out.lt).trans HM7.out
              have k1 : (fun w' => Below w1.heap.size w1 w' ∧ (w'.cell? ⟨wr.heap.size, 0, none⟩ = some (.int .i64 0) ∧ w'.cell? ⟨wr.heap.size, 1, none⟩ = some (.int .i64 0))) x1 := ⟨below_step k0.1 b1 k0.1.size, hm1.cell 0, hm1.cell 1⟩
              have o1 : GOwn 72 2 phC x1 w1.heap.size (.slice (some ⟨g, 0, none⟩) n cp) (st.reverse) := o0.keep (SameAt.of_below b1)
              clear b1
              refine hK.out _ x1 (k1) (fun hHeld => ?_)
              clear hK K
              try simp only [Act.put, List.setIfInBounds_toArray, List.set_cons_zero, List.set_cons_succ]
              refine ready_one (i := 9) rfl (by kernel_rfl) (fun K hK => ?_)
              go_simp
              have k2 : (fun w' => Below w1.heap.size w1 w' ∧ (w'.cell? ⟨wr.heap.size, 0, none⟩ = some (.int .i64 0) ∧ w'.cell? ⟨wr.heap.size, 1, none⟩ = some (.int .i64 0))) (x1.alloc (.cells #[.string ⟨(txtT (.lt false)).toArray⟩, .int .i64 (lastM (.lt false)).1] 72)) := ⟨k1.1.alloc k1.1.size _, (World.cell?_of_block (a := ⟨wr.heap.size, 0, none⟩) (Below.heap_alloc x1 _ _ hm1.lt)).trans k1.2.1, (World.cell?_of_block (a := ⟨wr.heap.size, 1, none⟩) (Below.heap_alloc x1 _ _ hm1.lt)).trans k1.2.2⟩
              refine hK.out _ (x1.alloc (.cells #[.string ⟨(txtT (.lt false)).toArray⟩, .int .i64 (lastM (.lt false)).1] 72)) (k2) (fun hHeld => ?_)
              clear hK K
              try simp only [Act.put, List.setIfInBounds_toArray, List.set_cons_zero, List.set_cons_succ]
              refine ready_one (i := 10) rfl (by kernel_rfl) (fun K hK => ?_)
              obtain ⟨g9, c9, x9, r9, o9, q9⟩ := run_app_ph x1 w1.heap.size (.slice (some ⟨g, 0, none⟩) n cp) st.reverse n HLQ.out (.lt false) o1 (by omega) k1.1.size
              refine step_append (s := .tmp 43) (x := .tmp 50) rfl rfl r9 ?_
              have k9 : (fun w' => Below w1.heap.size w1 w' ∧ (w'.cell? ⟨wr.heap.size, 0, none⟩ = some (.int .i64 0) ∧ w'.cell? ⟨wr.heap.size, 1, none⟩ = some (.int .i64 0))) x9 := ⟨k2.1.grown q9 k2.1.size (fun g' hg' => (o1.ge g' hg').1), q9.cell k2.2.1 (by simp only [Value.ownBlock]; intro e; injection e with e; exact absurd e.symm (Nat.ne_of_lt HGL.out)), q9.cell k2.2.2 (by simp only [Value.ownBlock]; intro e; injection e with e; exact absurd e.symm (Nat.ne_of_lt HGL.out))⟩
              refine hK.out _ x9 (k9) (fun hHeld => ?_)
              clear hK K
              try simp only [Act.put, List.setIfInBounds_toArray, List.set_cons_zero, List.set_cons_succ]
              refine take_in (i := 11) (v := ?_) rfl (by kernel_rfl) (fun _ _ _ h => h) rfl ?_ hHeld ?_
              rotate_left
              · intro w' hSw; go_simp; all_goals with_reducible rfl
              try simp only [Act.put, List.setIfInBounds_toArray, List.set_cons_zero, List.set_cons_succ]
              refine wpAnyH_done (by kernel_rfl) ?_ _
              have HF9 : Hid (GOwn 72 2 phC x9 w1.heap.size (.slice (some ⟨g9, 0, none⟩) (n + 1) c9) ((.lt false :: st).reverse) ∧ Below w1.heap.size w1 x9) := Lib.hid ⟨by rw [List.reverse_cons]; exact o9, k9.1⟩
              clear k0 k1 k2 k9 o0 o1 o9 q9 r9 hm1 hHeld
              go_wp2_with fail
              go_roundw
              case rel => exact ⟨k + 1, .lt false :: st, some ⟨g9, 0, none⟩, n + 1, c9, by go_num, by omega, rfl, Lib.hid (by rw [run_take HX.out HR.out]; exact HS.out), HF9⟩
              case measure => simp [intOf]; omega
          · obtain ⟨rfl, rfl⟩ : mk = 0 ∧ ma = 1 := Prod.mk.inj hm'
            clear hm'
            have HS := Lib.hid hs
            clear hs
            rcases own_some HO.out.1 with ⟨rfl, rfl, rfl, hst⟩ | ⟨g, rfl, hnl, hncp, hbg, hgl⟩
            · obtain rfl : st = [] := List.reverse_eq_nil_iff.1 hst
              clear hst
              have HLQ : Hid (([] : List Tm).reverse.length = 0) := Lib.hid rfl
              go_wp2_with fail
              refine (parts_b _).mono ?_
              rintro r w7 ⟨rfl, b7⟩
              have HM7 := Lib.hid (mbox b7)
              have HB7 : Hid (Below w1.heap.size w1 w7) := Lib.hid (below_step (HO.out.2.alloc HO.out.2.size (.cells #[.int .i64 0, .int .i64 1] 59)) b7 (by rw [World.size_alloc]; exact Nat.le_succ_of_le HO.out.2.size))
              have HO7 : Hid (GOwn 72 2 phC w7 w1.heap.size (.slice (none) 0 0) (([] : List Tm).reverse)) := Lib.hid ((HO.out.1.keep (SameAt.of_below ((Below.refl _ wr).alloc (Nat.le_refl _) (.cells #[.int .i64 0, .int .i64 1] 59)))).keep (SameAt.of_below b7))
              clear b7
              go_upto_region 12 with fail
              have k0 : (fun w' => Below w1.heap.size w1 w' ∧ (w'.cell? ⟨wr.heap.size, 0, none⟩ = some (.int .i64 0) ∧ w'.cell? ⟨wr.heap.size, 1, none⟩ = some (.int .i64 1))) w7.drew := ⟨HB7.out.drew, HM7.out.cell 0, HM7.out.cell 1⟩
              have o0 : GOwn 72 2 phC w7.drew w1.heap.size (.slice (none) 0 0) (([] : List Tm).reverse) := HO7.out
              refine wp_region_held_drew (S := fun w' => Below w1.heap.size w1 w' ∧ (w'.cell? ⟨wr.heap.size, 0, none⟩ = some (.int .i64 0) ∧ w'.cell? ⟨wr.heap.size, 1, none⟩ = some (.int .i64 1))) (by kernel_rfl) k0 (fun hHeld => ?_)
              refine take_in (i := 0) (v := ?_) rfl (by kernel_rfl) (fun _ _ _ h => h) rfl ?_ hHeld ?_
              rotate_left
              · intro w' hSw; go_simp; all_goals with_reducible rfl
              try simp only [Act.put, List.setIfInBounds_toArray, List.set_cons_zero, List.set_cons_succ]
              refine take_in (i := 1) (v := ?_) rfl (by kernel_rfl) (fun _ _ _ h => h) rfl ?_ hHeld ?_
              rotate_left
              · intro w' hSw; go_simp; all_goals with_reducible rfl
              try simp only [Act.put, List.setIfInBounds_toArray, List.set_cons_zero, List.set_cons_succ]
              refine take_in (i := 2) (v := ?_) rfl (by kernel_rfl) (fun _ _ _ h => h) rfl ?_ hHeld ?_
              rotate_left
              · intro w' hSw; go_simp; all_goals with_reducible rfl
              try simp only [Act.put, List.setIfInBounds_toArray, List.set_cons_zero, List.set_cons_succ]
              refine take_in (i := 3) (v := ?_) rfl (by kernel_rfl) (fun _ _ _ h => h) rfl ?_ hHeld ?_
              rotate_left
              · intro w' hSw; go_simp; all_goals with_reducible rfl
              try simp only [Act.put, List.setIfInBounds_toArray, List.set_cons_zero, List.set_cons_succ]
              refine take_in (i := 4) (v := ?_) rfl (by kernel_rfl) (fun _ _ _ h => h) rfl ?_ hHeld ?_
              rotate_left
              · intro w' hSw; obtain ⟨-, d0, d1⟩ := hSw; go_simp; all_goals with_reducible rfl
              try simp only [Act.put, List.setIfInBounds_toArray, List.set_cons_zero, List.set_cons_succ]
              refine take_in (i := 5) (v := ?_) rfl (by kernel_rfl) (fun _ _ _ h => h) rfl ?_ hHeld ?_
              rotate_left
              · intro w' hSw; go_simp; all_goals with_reducible rfl
              try simp only [Act.put, List.setIfInBounds_toArray, List.set_cons_zero, List.set_cons_succ]
              refine take_in (i := 6) (v := ?_) rfl (by kernel_rfl) (fun _ _ _ h => h) rfl ?_ hHeld ?_
              rotate_left
              · intro w' hSw; go_simp; all_goals with_reducible rfl
              try simp only [Act.put, List.setIfInBounds_toArray, List.set_cons_zero, List.set_cons_succ]
              refine take_in (i := 7) (v := ?_) rfl (by kernel_rfl) (fun _ _ _ h => h) rfl ?_ hHeld ?_
              rotate_left
              · intro w' hSw; go_simp; all_goals with_reducible rfl
              try simp only [Act.put, List.setIfInBounds_toArray, List.set_cons_zero, List.set_cons_succ]
              refine ready_one (i := 8) rfl (by kernel_rfl) (fun K hK => ?_)
              go_simp
              go_at_call 48
              refine (ph_letter true _ _).mono ?_
              rintro r x1 ⟨rfl, b1⟩
              have hm1 : Blk x1 wr.heap.size 59 #[.int .i64 0, .int .i64 1] := (b1.block _ HM7.out.lt).trans HM7.out
              have k1 : (fun w' => Below w1.heap.size w1 w' ∧ (w'.cell? ⟨wr.heap.size, 0, none⟩ = some (.int .i64 0) ∧ w'.cell? ⟨wr.heap.size, 1, none⟩ = some (.int .i64 1))) x1 := ⟨below_step k0.1 b1 k0.1.size, hm1.cell 0, hm1.cell 1⟩
              have o1 : GOwn 72 2 phC x1 w1.heap.size (.slice (none) 0 0) (([] : List Tm).reverse) := o0.keep (SameAt.of_below b1)
              clear b1
              refine hK.out _ x1 (k1) (fun hHeld => ?_)
              clear hK K
              try simp only [Act.put, List.setIfInBounds_toArray, List.set_cons_zero, List.set_cons_succ]
              refine ready_one (i := 9) rfl (by kernel_rfl) (fun K hK => ?_)
              go_simp
              have k2 : (fun w' => Below w1.heap.size w1 w' ∧ (w'.cell? ⟨wr.heap.size, 0, none⟩ = some (.int .i64 0) ∧ w'.cell? ⟨wr.heap.size, 1, none⟩ = some (.int .i64 1))) (x1.alloc (.cells #[.string ⟨(txtT (.lt true)).toArray⟩, .int .i64 (lastM (.lt true)).1] 72)) := ⟨k1.1.alloc k1.1.size _, (World.cell?_of_block (a := ⟨wr.heap.size, 0, none⟩) (Below.heap_alloc x1 _ _ hm1.lt)).trans k1.2.1, (World.cell?_of_block (a := ⟨wr.heap.size, 1, none⟩) (Below.heap_alloc x1 _ _ hm1.lt)).trans k1.2.2⟩
              refine hK.out _ (x1.alloc (.cells #[.string ⟨(txtT (.lt true)).toArray⟩, .int .i64 (lastM (.lt true)).1] 72)) (k2) (fun hHeld => ?_)
              clear hK K
              try simp only [Act.put, List.setIfInBounds_toArray, List.set_cons_zero, List.set_cons_succ]
              refine ready_one (i := 10) rfl (by kernel_rfl) (fun K hK => ?_)
              obtain ⟨g9, c9, x9, r9, o9, q9⟩ := run_app_ph x1 w1.heap.size (.slice (none) 0 0) ([] : List Tm).reverse 0 HLQ.out (.lt true) o1 (by omega) k1.1.size
              refine step_append (s := .tmp 43) (x := .tmp 50) rfl rfl r9 ?_
              have k9 : (fun w' => Below w1.heap.size w1 w' ∧ (w'.cell? ⟨wr.heap.size, 0, none⟩ = some (.int .i64 0) ∧ w'.cell? ⟨wr.heap.size, 1, none⟩ = some (.int .i64 1))) x9 := ⟨k2.1.grown q9 k2.1.size (fun g' hg' => (o1.ge g' hg').1), q9.cell k2.2.1 (by simp [Value.ownBlock]), q9.cell k2.2.2 (by simp [Value.ownBlock])⟩
              refine hK.out _ x9 (k9) (fun hHeld => ?_)
              clear hK K
              try simp only [Act.put, List.setIfInBounds_toArray, List.set_cons_zero, List.set_cons_succ]
              refine take_in (i := 11) (v := ?_) rfl (by kernel_rfl) (fun _ _ _ h => h) rfl ?_ hHeld ?_
              rotate_left
              · intro w' hSw; go_simp; all_goals with_reducible rfl
              try simp only [Act.put, List.setIfInBounds_toArray, List.set_cons_zero, List.set_cons_succ]
              refine wpAnyH_done (by kernel_rfl) ?_ _
              have HF9 : Hid (GOwn 72 2 phC x9 w1.heap.size (.slice (some ⟨g9, 0, none⟩) (0 + 1) c9) ((.lt true :: ([] : List Tm)).reverse) ∧ Below w1.heap.size w1 x9) := Lib.hid ⟨by rw [List.reverse_cons]; exact o9, k9.1⟩
              clear k0 k1 k2 k9 o0 o1 o9 q9 r9 hm1 hHeld
              go_wp2_with fail
              go_roundw
              case rel => exact ⟨k + 1, .lt true :: ([] : List Tm), some ⟨g9, 0, none⟩, 0 + 1, c9, by go_num, by omega, rfl, Lib.hid (by rw [run_take HX.out HR.out]; exact HS.out), HF9⟩
              case measure => simp [intOf]; omega
            · have HLQ : Hid (st.reverse.length = n) := Lib.hid hnl.symm
              have hg1 : ¬ ((n : Int) < 0) := by omega
              have h40q : n ≤ 40 := HN40.out
              have hw : IntKind.i64.wrap ((n : Int) - 0) = (n : Int) := by rw [IntWalk.i64_in _ (by omega)]; omega
              have hw2 : IntKind.i64.wrap (n : Int) = (n : Int) := by rw [IntWalk.i64_in _ (by omega)]
              have hq0 : (0 : Int) ≤ (n : Int) := by omega
              have hqc : (n : Int) ≤ (cp : Int) := by omega
              have HGL := Lib.hid hgl
              clear hnl hgl
              go_wp2_with fail
              refine (parts_b _).mono ?_
              rintro r w7 ⟨rfl, b7⟩
              have HM7 := Lib.hid (mbox b7)
              have HB7 : Hid (Below w1.heap.size w1 w7) := Lib.hid (below_step (HO.out.2.alloc HO.out.2.size (.cells #[.int .i64 0, .int .i64 1] 59)) b7 (by rw [World.size_alloc]; exact Nat.le_succ_of_le HO.out.2.size))
              have HO7 : Hid (GOwn 72 2 phC w7 w1.heap.size (.slice (some ⟨g, 0, none⟩) n cp) (st.reverse)) := Lib.hid ((HO.out.1.keep (SameAt.of_below ((Below.refl _ wr).alloc (Nat.le_refl _) (.cells #[.int .i64 0, .int .i64 1] 59)))).keep (SameAt.of_below b7))
              clear b7
              go_upto_region 12 with fail
              have k0 : (fun w' => Below w1.heap.size w1 w' ∧ (w'.cell? ⟨wr.heap.size, 0, none⟩ = some (.int .i64 0) ∧ w'.cell? ⟨wr.heap.size, 1, none⟩ = some (.int .i64 1))) w7.drew := ⟨HB7.out.drew, HM7.out.cell 0, HM7.out.cell 1⟩
              have o0 : GOwn 72 2 phC w7.drew w1.heap.size (.slice (some ⟨g, 0, none⟩) n cp) (st.reverse) := HO7.out
              refine wp_region_held_drew (S := fun w' => Below w1.heap.size w1 w' ∧ (w'.cell? ⟨wr.heap.size, 0, none⟩ = some (.int .i64 0) ∧ w'.cell? ⟨wr.heap.size, 1, none⟩ = some (.int .i64 1))) (by kernel_rfl) k0 (fun hHeld => ?_)
              refine take_in (i := 0) (v := ?_) rfl (by kernel_rfl) (fun _ _ _ h => h) rfl ?_ hHeld ?_
              rotate_left
              · intro w' hSw; go_simp; all_goals with_reducible rfl
              try simp only [Act.put, List.setIfInBounds_toArray, List.set_cons_zero, List.set_cons_succ]
              refine take_in (i := 1) (v := ?_) rfl (by kernel_rfl) (fun _ _ _ h => h) rfl ?_ hHeld ?_
              rotate_left
              · intro w' hSw; go_simp; all_goals with_reducible rfl
              try simp only [Act.put, List.setIfInBounds_toArray, List.set_cons_zero, List.set_cons_succ]
              refine take_in (i := 2) (v := ?_) rfl (by kernel_rfl) (fun _ _ _ h => h) rfl ?_ hHeld ?_
              rotate_left
              · intro w' hSw; go_simp; all_goals with_reducible rfl
              try simp only [Act.put, List.setIfInBounds_toArray, List.set_cons_zero, List.set_cons_succ]
              refine take_in (i := 3) (v := ?_) rfl (by kernel_rfl) (fun _ _ _ h => h) rfl ?_ hHeld ?_
              rotate_left
              · intro w' hSw; go_simp; all_goals with_reducible rfl
              try simp only [Act.put, List.setIfInBounds_toArray, List.set_cons_zero, List.set_cons_succ]
              refine take_in (i := 4) (v := ?_) rfl (by kernel_rfl) (fun _ _ _ h => h) rfl ?_ hHeld ?_
              rotate_left
              · intro w' hSw; obtain ⟨-, d0, d1⟩ := hSw; go_simp; all_goals with_reducible rfl
              try simp only [Act.put, List.setIfInBounds_toArray, List.set_cons_zero, List.set_cons_succ]
              refine take_in (i := 5) (v := ?_) rfl (by kernel_rfl) (fun _ _ _ h => h) rfl ?_ hHeld ?_
              rotate_left
              · intro w' hSw; go_simp; all_goals with_reducible rfl
              try simp only [Act.put, List.setIfInBounds_toArray, List.set_cons_zero, List.set_cons_succ]
              refine take_in (i := 6) (v := ?_) rfl (by kernel_rfl) (fun _ _ _ h => h) rfl ?_ hHeld ?_
              rotate_left
              · intro w' hSw; go_simp; all_goals with_reducible rfl
              try simp only [Act.put, List.setIfInBounds_toArray, List.set_cons_zero, List.set_cons_succ]
              refine take_in (i := 7) (v := ?_) rfl (by kernel_rfl) (fun _ _ _ h => h) rfl ?_ hHeld ?_
              rotate_left
              · intro w' hSw; go_simp; all_goals with_reducible rfl
              try simp only [Act.put, List.setIfInBounds_toArray, List.set_cons_zero, List.set_cons_succ]
              refine ready_one (i := 8) rfl (by kernel_rfl) (fun K hK => ?_)
              go_simp
              go_at_call 48
              refine (ph_letter true _ _).mono ?_
              rintro r x1 ⟨rfl, b1⟩
              have hm1 : Blk x1 wr.heap.size 59 #[.int .i64 0, .int .i64 1] := (b1.block _ HM7.out.lt).trans HM7.out
              have k1 : (fun w' => Below w1.heap.size w1 w' ∧ (w'.cell? ⟨wr.heap.size, 0, none⟩ = some (.int .i64 0) ∧ w'.cell? ⟨wr.heap.size, 1, none⟩ = some (.int .i64 1))) x1 := ⟨below_step k0.1 b1 k0.1.size, hm1.cell 0, hm1.cell 1⟩
              have o1 : GOwn 72 2 phC x1 w1.heap.size (.slice (some ⟨g, 0, none⟩) n cp) (st.reverse) := o0.keep (SameAt.of_below b1)
              clear b1
              refine hK.out _ x1 (k1) (fun hHeld => ?_)
              clear hK K
              try simp only [Act.put, List.setIfInBounds_toArray, List.set_cons_zero, List.set_cons_succ]
              refine ready_one (i := 9) rfl (by kernel_rfl) (fun K hK => ?_)
              go_simp
              have k2 : (fun w' => Below w1.heap.size w1 w' ∧ (w'.cell? ⟨wr.heap.size, 0, none⟩ = some (.int .i64 0) ∧ w'.cell? ⟨wr.heap.size, 1, none⟩ = some (.int .i64 1))) (x1.alloc (.cells #[.string ⟨(txtT (.lt true)).toArray⟩, .int .i64 (lastM (.lt true)).1] 72)) := ⟨k1.1.alloc k1.1.size _, (World.cell?_of_block (a := ⟨wr.heap.size, 0, none⟩) (Below.heap_alloc x1 _ _ hm1.lt)).trans k1.2.1, (World.cell?_of_block (a := ⟨wr.heap.size, 1, none⟩) (Below.heap_alloc x1 _ _ hm1.lt)).trans k1.2.2⟩
              refine hK.out _ (x1.alloc (.cells #[.string ⟨(txtT (.lt true)).toArray⟩, .int .i64 (lastM (.lt true)).1] 72)) (k2) (fun hHeld => ?_)
              clear hK K
              try simp only [Act.put, List.setIfInBounds_toArray, List.set_cons_zero, List.set_cons_succ]
              refine ready_one (i := 10) rfl (by kernel_rfl) (fun K hK => ?_)
              obtain ⟨g9, c9, x9, r9, o9, q9⟩ := run_app_ph x1 w1.heap.size (.slice (some ⟨g, 0, none⟩) n cp) st.reverse n HLQ.out (.lt true) o1 (by omega) k1.1.size
              refine step_append (s := .tmp 43) (x := .tmp 50) rfl rfl r9 ?_
              have k9 : (fun w' => Below w1.heap.size w1 w' ∧ (w'.cell? ⟨wr.heap.size, 0, none⟩ = some (.int .i64 0) ∧ w'.cell? ⟨wr.heap.size, 1, none⟩ = some (.int .i64 1))) x9 := ⟨k2.1.grown q9 k2.1.size (fun g' hg' => (o1.ge g' hg').1), q9.cell k2.2.1 (by simp only [Value.ownBlock]; intro e; injection e with e; exact absurd e.symm (Nat.ne_of_lt HGL.out)), q9.cell k2.2.2 (by simp only [Value.ownBlock]; intro e; injection e with e; exact absurd e.symm (Nat.ne_of_lt HGL.out))⟩
              refine hK.out _ x9 (k9) (fun hHeld => ?_)
              clear hK K
              try simp only [Act.put, List.setIfInBounds_toArray, List.set_cons_zero, List.set_cons_succ]
              refine take_in (i := 11) (v := ?_) rfl (by kernel_rfl) (fun _ _ _ h => h) rfl ?_ hHeld ?_
              rotate_left
              · intro w' hSw; go_simp; all_goals with_reducible rfl
              try simp only [Act.put, List.setIfInBounds_toArray, List.set_cons_zero, List.set_cons_succ]
              refine wpAnyH_done (by kernel_rfl) ?_ _
              have HF9 : Hid (GOwn 72 2 phC x9 w1.heap.size (.slice (some ⟨g9, 0, none⟩) (n + 1) c9) ((.lt true :: st).reverse) ∧ Below w1.heap.size w1 x9) := Lib.hid ⟨by rw [List.reverse_cons]; exact o9, k9.1⟩
              clear k0 k1 k2 k9 o0 o1 o9 q9 r9 hm1 hHeld
              go_wp2_with fail
              go_roundw
              case rel => exact ⟨k + 1, .lt true :: st, some ⟨g9, 0, none⟩, n + 1, c9, by go_num, by omega, rfl, Lib.hid (by rw [run_take HX.out HR.out]; exact HS.out), HF9⟩
              case measure => simp [intOf]; omega
        · obtain ⟨rfl, rfl⟩ := Prod.mk.inj hm'
          clear hm'
          have HO2 : Hid (GOwn 72 2 phC wr w1.heap.size (.slice B n cp) (s.reverse ++ [x]) ∧ Below w1.heap.size w1 wr) := Lib.hid ⟨by have := HO.out.1; simpa using this, HO.out.2⟩
          clear HO
          have HO := HO2
          clear HO2
          have HS := Lib.hid hs
          clear hs
          rcases own_some HO.out.1 with ⟨-, -, -, hst⟩ | ⟨g, rfl, hnl, hncp, hbg, hgl⟩
          · exact absurd hst (by simp)
          obtain ⟨q, hq⟩ : ∃ q, s.length = q := ⟨_, rfl⟩
          have hn : n = q + 1 := by rw [hnl]; simp [hq]
          have HLQ : Hid (s.reverse.length = q) := Lib.hid (by rw [List.length_reverse]; exact hq)
          have hg1 : ¬ ((n : Int) < 1) := by omega
          have hw : IntKind.i64.wrap ((n : Int) - 1) = (q : Int) := by have h9 := HN40.out; rw [IntWalk.i64_in _ (by omega)]; omega
          have hq0 : (0 : Int) ≤ (q : Int) := by omega
          have hqc : (q : Int) ≤ (cp : Int) := by omega
          have hqn : (q : Int) ≤ (n : Int) := by omega
          have hqc' : q ≤ cp := by omega
          have hqn' : q ≤ n := by omega
          have hcq : ¬ cp = q := by omega
          have hcz : ¬ cp = 0 := by omega
          have hnq : 1 ≤ n - q := by omega
          have h40q : q ≤ 40 := by have := HN40.out; omega
          have HGL := Lib.hid hgl
          clear hq hnl hgl hn hncp
          have HTX : Hid ((txtT (.no x)).length ≤ 900000) := Lib.hid (by have := run_txt (l := t.take (k + 1)) (T := .no x) (s := s) (by rw [run_take HX.out HR.out]; exact HS.out); have h3 := List.length_take_le (k + 1) t; have h4 := H40.out; omega)
          go_wp2_with fail
          refine (parts_no _).mono ?_
          rintro r w7 ⟨rfl, b7⟩
          have HM7 := Lib.hid (mbox b7)
          have HB7 : Hid (Below w1.heap.size w1 w7) := Lib.hid (below_step (HO.out.2.alloc HO.out.2.size (.cells #[.int .i64 1, .int .i64 0] 59)) b7 (by rw [World.size_alloc]; exact Nat.le_succ_of_le HO.out.2.size))
          have HO7 : Hid (GOwn 72 2 phC w7 w1.heap.size (.slice (some ⟨g, 0, none⟩) n cp) (s.reverse ++ [x])) := Lib.hid ((HO.out.1.keep (SameAt.of_below ((Below.refl _ wr).alloc (Nat.le_refl _) (.cells #[.int .i64 1, .int .i64 0] 59)))).keep (SameAt.of_below b7))
          clear b7
          go_upto_region 12 with fail
          have k0 : (fun w' => Below w1.heap.size w1 w' ∧ (w'.cell? ⟨wr.heap.size, 0, none⟩ = some (.int .i64 1) ∧ w'.cell? ⟨wr.heap.size, 1, none⟩ = some (.int .i64 0))) w7.drew := ⟨HB7.out.drew, HM7.out.cell 0, HM7.out.cell 1⟩
          have o0 : GOwn 72 2 phC w7.drew w1.heap.size (.slice (some ⟨g, 0, none⟩) n cp) (s.reverse ++ [x]) := HO7.out
          have hk0 : w7.drew.cell? ⟨g, q * 2, none⟩ = some (.string ⟨(txtT x).toArray⟩) := by
            have hx9 := own_cell phC_len o0 (i := q) (x := x) (by rw [← HLQ.out]; simp) (j := 0) rfl
            rwa [show q * 2 + 0 = q * 2 from by omega] at hx9
          have hk1 : w7.drew.cell? ⟨g, q * 2 + 1, none⟩ = some (.int .i64 (lastM x).1) := by
            have hx9 := own_cell phC_len o0 (i := q) (x := x) (by rw [← HLQ.out]; simp) (j := 1) rfl
            rwa [show q * 2 + 1 = q * 2 + 1 from by omega] at hx9
          refine wp_region_held_drew (S := fun w' => Below w1.heap.size w1 w' ∧ (w'.cell? ⟨wr.heap.size, 0, none⟩ = some (.int .i64 1) ∧ w'.cell? ⟨wr.heap.size, 1, none⟩ = some (.int .i64 0))) (by kernel_rfl) k0 (fun hHeld => ?_)
          refine take_in (i := 0) (v := ?_) rfl (by kernel_rfl) (fun _ _ _ h => h) rfl ?_ hHeld ?_
          rotate_left
          · intro w' hSw; go_simp; all_goals with_reducible rfl
          try simp only [Act.put, List.setIfInBounds_toArray, List.set_cons_zero, List.set_cons_succ]
          refine take_in (i := 1) (v := ?_) rfl (by kernel_rfl) (fun _ _ _ h => h) rfl ?_ hHeld ?_
          rotate_left
          · intro w' hSw; go_simp; all_goals with_reducible rfl
          try simp only [Act.put, List.setIfInBounds_toArray, List.set_cons_zero, List.set_cons_succ]
          refine take_in (i := 2) (v := ?_) rfl (by kernel_rfl) (fun _ _ _ h => h) rfl ?_ hHeld ?_
          rotate_left
          · intro w' hSw; go_simp; all_goals with_reducible rfl
          try simp only [Act.put, List.setIfInBounds_toArray, List.set_cons_zero, List.set_cons_succ]
          refine take_in (i := 3) (v := ?_) rfl (by kernel_rfl) (fun _ _ _ h => h) rfl ?_ hHeld ?_
          rotate_left
          · intro w' hSw; go_simp; all_goals with_reducible rfl
          try simp only [Act.put, List.setIfInBounds_toArray, List.set_cons_zero, List.set_cons_succ]
          refine take_in (i := 4) (v := ?_) rfl (by kernel_rfl) (fun _ _ _ h => h) rfl ?_ hHeld ?_
          rotate_left
          · intro w' hSw; obtain ⟨-, d0, d1⟩ := hSw; go_simp; all_goals with_reducible rfl
          try simp only [Act.put, List.setIfInBounds_toArray, List.set_cons_zero, List.set_cons_succ]
          refine take_in (i := 5) (v := ?_) rfl (by kernel_rfl) (fun _ _ _ h => h) rfl ?_ hHeld ?_
          rotate_left
          · intro w' hSw; go_simp; all_goals with_reducible rfl
          try simp only [Act.put, List.setIfInBounds_toArray, List.set_cons_zero, List.set_cons_succ]
          refine take_in (i := 6) (v := ?_) rfl (by kernel_rfl) (fun _ _ _ h => h) rfl ?_ hHeld ?_
          rotate_left
          · intro w' hSw; go_simp; all_goals with_reducible rfl
          try simp only [Act.put, List.setIfInBounds_toArray, List.set_cons_zero, List.set_cons_succ]
          refine take_in (i := 7) (v := ?_) rfl (by kernel_rfl) (fun _ _ _ h => h) rfl ?_ hHeld ?_
          rotate_left
          · intro w' hSw; go_simp; all_goals with_reducible rfl
          try simp only [Act.put, List.setIfInBounds_toArray, List.set_cons_zero, List.set_cons_succ]
          refine ready_one (i := 8) rfl (by kernel_rfl) (fun K hK => ?_)
          go_simp
          go_at_call 48
          refine (ph_no x HTX.out _ g _ _ _ hnq hk0 hk1).mono ?_
          rintro r x1 ⟨rfl, b1⟩
          have hm1 : Blk x1 wr.heap.size 59 #[.int .i64 1, .int .i64 0] := (b1.block _ HM7.out.lt).trans HM7.out
          have k1 : (fun w' => Below w1.heap.size w1 w' ∧ (w'.cell? ⟨wr.heap.size, 0, none⟩ = some (.int .i64 1) ∧ w'.cell? ⟨wr.heap.size, 1, none⟩ = some (.int .i64 0))) x1 := ⟨below_step k0.1 b1 k0.1.size, hm1.cell 0, hm1.cell 1⟩
          have o1 : GOwn 72 2 phC x1 w1.heap.size (.slice (some ⟨g, 0, none⟩) q cp) (s.reverse) := own_split phC_len (ys := [x]) (by have := o0.keep (SameAt.of_below b1); simpa using this) HLQ.out
          clear b1
          refine hK.out _ x1 (k1) (fun hHeld => ?_)
          clear hK K
          try simp only [Act.put, List.setIfInBounds_toArray, List.set_cons_zero, List.set_cons_succ]
          refine ready_one (i := 9) rfl (by kernel_rfl) (fun K hK => ?_)
          go_simp
          have k2 : (fun w' => Below w1.heap.size w1 w' ∧ (w'.cell? ⟨wr.heap.size, 0, none⟩ = some (.int .i64 1) ∧ w'.cell? ⟨wr.heap.size, 1, none⟩ = some (.int .i64 0))) (x1.alloc (.cells #[.string ⟨(txtT (.no x)).toArray⟩, .int .i64 (lastM (.no x)).1] 72)) := ⟨k1.1.alloc k1.1.size _, (World.cell?_of_block (a := ⟨wr.heap.size, 0, none⟩) (Below.heap_alloc x1 _ _ hm1.lt)).trans k1.2.1, (World.cell?_of_block (a := ⟨wr.heap.size, 1, none⟩) (Below.heap_alloc x1 _ _ hm1.lt)).trans k1.2.2⟩
          refine hK.out _ (x1.alloc (.cells #[.string ⟨(txtT (.no x)).toArray⟩, .int .i64 (lastM (.no x)).1] 72)) (k2) (fun hHeld => ?_)
          clear hK K
          try simp only [Act.put, List.setIfInBounds_toArray, List.set_cons_zero, List.set_cons_succ]
          refine ready_one (i := 10) rfl (by kernel_rfl) (fun K hK => ?_)
          obtain ⟨g9, c9, x9, r9, o9, q9⟩ := run_app_ph x1 w1.heap.size (.slice (some ⟨g, 0, none⟩) q cp) s.reverse q HLQ.out (.no x) o1 (by omega) k1.1.size
          refine step_append (s := .tmp 43) (x := .tmp 50) rfl rfl r9 ?_
          have k9 : (fun w' => Below w1.heap.size w1 w' ∧ (w'.cell? ⟨wr.heap.size, 0, none⟩ = some (.int .i64 1) ∧ w'.cell? ⟨wr.heap.size, 1, none⟩ = some (.int .i64 0))) x9 := ⟨k2.1.grown q9 k2.1.size (fun g' hg' => (o1.ge g' hg').1), q9.cell k2.2.1 (by simp only [Value.ownBlock]; intro e; injection e with e; exact absurd e.symm (Nat.ne_of_lt HGL.out)), q9.cell k2.2.2 (by simp only [Value.ownBlock]; intro e; injection e with e; exact absurd e.symm (Nat.ne_of_lt HGL.out))⟩
          refine hK.out _ x9 (k9) (fun hHeld => ?_)
          clear hK K
          try simp only [Act.put, List.setIfInBounds_toArray, List.set_cons_zero, List.set_cons_succ]
          refine take_in (i := 11) (v := ?_) rfl (by kernel_rfl) (fun _ _ _ h => h) rfl ?_ hHeld ?_
          rotate_left
          · intro w' hSw; go_simp; all_goals with_reducible rfl
          try simp only [Act.put, List.setIfInBounds_toArray, List.set_cons_zero, List.set_cons_succ]
          refine wpAnyH_done (by kernel_rfl) ?_ _
          have HF9 : Hid (GOwn 72 2 phC x9 w1.heap.size (.slice (some ⟨g9, 0, none⟩) (q + 1) c9) ((.no x :: s).reverse) ∧ Below w1.heap.size w1 x9) := Lib.hid ⟨by rw [List.reverse_cons]; exact o9, k9.1⟩
          clear k0 k1 k2 k9 o0 o1 o9 q9 r9 hm1 hHeld
          go_wp2_with fail
          go_roundw
          case rel => exact ⟨k + 1, .no x :: s, some ⟨g9, 0, none⟩, q + 1, c9, by go_num, by omega, rfl, Lib.hid (by rw [run_take HX.out HR.out]; exact HS.out), HF9⟩
          case measure => simp [intOf]; omega
        · obtain ⟨rfl, rfl⟩ := Prod.mk.inj hm'
          clear hm'
          have HO2 : Hid (GOwn 72 2 phC wr w1.heap.size (.slice B n cp) (s.reverse ++ [x, y]) ∧ Below w1.heap.size w1 wr) := Lib.hid ⟨by have := HO.out.1; simpa using this, HO.out.2⟩
          clear HO
          have HO := HO2
          clear HO2
          have HS := Lib.hid hs
          clear hs
          rcases own_some HO.out.1 with ⟨-, -, -, hst⟩ | ⟨g, rfl, hnl, hncp, hbg, hgl⟩
          · exact absurd hst (by simp)
          obtain ⟨q, hq⟩ : ∃ q, s.length = q := ⟨_, rfl⟩
          have hn : n = q + 2 := by rw [hnl]; simp [hq]
          have HLQ : Hid (s.reverse.length = q) := Lib.hid (by rw [List.length_reverse]; exact hq)
          have hg1 : ¬ ((n : Int) < 2) := by omega
          have hw : IntKind.i64.wrap ((n : Int) - 2) = (q : Int) := by have h9 := HN40.out; rw [IntWalk.i64_in _ (by omega)]; omega
          have hq0 : (0 : Int) ≤ (q : Int) := by omega
          have hqc : (q : Int) ≤ (cp : Int) := by omega
          have hqn : (q : Int) ≤ (n : Int) := by omega
          have hqc' : q ≤ cp := by omega
          have hqn' : q ≤ n := by omega
          have hcq : ¬ cp = q := by omega
          have hcz : ¬ cp = 0 := by omega
          have hnq : 2 ≤ n - q := by omega
          have h40q : q ≤ 40 := by have := HN40.out; omega
          have HGL := Lib.hid hgl
          clear hq hnl hgl hn hncp
          have HTX : Hid ((txtT (.an x y)).length ≤ 900000) := Lib.hid (by have := run_txt (l := t.take (k + 1)) (T := .an x y) (s := s) (by rw [run_take HX.out HR.out]; exact HS.out); have h3 := List.length_take_le (k + 1) t; have h4 := H40.out; omega)
          go_wp2_with fail
          refine (parts_an _).mono ?_
          rintro r w7 ⟨rfl, b7⟩
          have HM7 := Lib.hid (mbox b7)
          have HB7 : Hid (Below w1.heap.size w1 w7) := Lib.hid (below_step (HO.out.2.alloc HO.out.2.size (.cells #[.int .i64 2, .int .i64 0] 59)) b7 (by rw [World.size_alloc]; exact Nat.le_succ_of_le HO.out.2.size))
          have HO7 : Hid (GOwn 72 2 phC w7 w1.heap.size (.slice (some ⟨g, 0, none⟩) n cp) (s.reverse ++ [x, y])) := Lib.hid ((HO.out.1.keep (SameAt.of_below ((Below.refl _ wr).alloc (Nat.le_refl _) (.cells #[.int .i64 2, .int .i64 0] 59)))).keep (SameAt.of_below b7))
          clear b7
          go_upto_region 12 with fail
          have k0 : (fun w' => Below w1.heap.size w1 w' ∧ (w'.cell? ⟨wr.heap.size, 0, none⟩ = some (.int .i64 2) ∧ w'.cell? ⟨wr.heap.size, 1, none⟩ = some (.int .i64 0))) w7.drew := ⟨HB7.out.drew, HM7.out.cell 0, HM7.out.cell 1⟩
          have o0 : GOwn 72 2 phC w7.drew w1.heap.size (.slice (some ⟨g, 0, none⟩) n cp) (s.reverse ++ [x, y]) := HO7.out
          have hk0 : w7.drew.cell? ⟨g, q * 2, none⟩ = some (.string ⟨(txtT x).toArray⟩) := by
            have hx9 := own_cell phC_len o0 (i := q) (x := x) (by rw [← HLQ.out]; simp) (j := 0) rfl
            rwa [show q * 2 + 0 = q * 2 from by omega] at hx9
          have hk1 : w7.drew.cell? ⟨g, q * 2 + 1, none⟩ = some (.int .i64 (lastM x).1) := by
            have hx9 := own_cell phC_len o0 (i := q) (x := x) (by rw [← HLQ.out]; simp) (j := 1) rfl
            rwa [show q * 2 + 1 = q * 2 + 1 from by omega] at hx9
          have hk2 : w7.drew.cell? ⟨g, q * 2 + 2, none⟩ = some (.string ⟨(txtT y).toArray⟩) := by
            have hx9 := own_cell phC_len o0 (i := (q + 1)) (x := y) (by rw [← HLQ.out]; simp) (j := 0) rfl
            rwa [show (q + 1) * 2 + 0 = q * 2 + 2 from by omega] at hx9
          have hk3 : w7.drew.cell? ⟨g, q * 2 + 3, none⟩ = some (.int .i64 (lastM y).1) := by
            have hx9 := own_cell phC_len o0 (i := (q + 1)) (x := y) (by rw [← HLQ.out]; simp) (j := 1) rfl
            rwa [show (q + 1) * 2 + 1 = q * 2 + 3 from by omega] at hx9
          refine wp_region_held_drew (S := fun w' => Below w1.heap.size w1 w' ∧ (w'.cell? ⟨wr.heap.size, 0, none⟩ = some (.int .i64 2) ∧ w'.cell? ⟨wr.heap.size, 1, none⟩ = some (.int .i64 0))) (by kernel_rfl) k0 (fun hHeld => ?_)
          refine take_in (i := 0) (v := ?_) rfl (by kernel_rfl) (fun _ _ _ h => h) rfl ?_ hHeld ?_
          rotate_left
          · intro w' hSw; go_simp; all_goals with_reducible rfl
          try simp only [Act.put, List.setIfInBounds_toArray, List.set_cons_zero, List.set_cons_succ]
          refine take_in (i := 1) (v := ?_) rfl (by kernel_rfl) (fun _ _ _ h => h) rfl ?_ hHeld ?_
          rotate_left
          · intro w' hSw; go_simp; all_goals with_reducible rfl
          try simp only [Act.put, List.setIfInBounds_toArray, List.set_cons_zero, List.set_cons_succ]
          refine take_in (i := 2) (v := ?_) rfl (by kernel_rfl) (fun _ _ _ h => h) rfl ?_ hHeld ?_
          rotate_left
          · intro w' hSw; go_simp; all_goals with_reducible rfl
          try simp only [Act.put, List.setIfInBounds_toArray, List.set_cons_zero, List.set_cons_succ]
          refine take_in (i := 3) (v := ?_) rfl (by kernel_rfl) (fun _ _ _ h => h) rfl ?_ hHeld ?_
          rotate_left
          · intro w' hSw; go_simp; all_goals with_reducible rfl
          try simp only [Act.put, List.setIfInBounds_toArray, List.set_cons_zero, List.set_cons_succ]
          refine take_in (i := 4) (v := ?_) rfl (by kernel_rfl) (fun _ _ _ h => h) rfl ?_ hHeld ?_
          rotate_left
          · intro w' hSw; obtain ⟨-, d0, d1⟩ := hSw; go_simp; all_goals with_reducible rfl
          try simp only [Act.put, List.setIfInBounds_toArray, List.set_cons_zero, List.set_cons_succ]
          refine take_in (i := 5) (v := ?_) rfl (by kernel_rfl) (fun _ _ _ h => h) rfl ?_ hHeld ?_
          rotate_left
          · intro w' hSw; go_simp; all_goals with_reducible rfl
          try simp only [Act.put, List.setIfInBounds_toArray, List.set_cons_zero, List.set_cons_succ]
          refine take_in (i := 6) (v := ?_) rfl (by kernel_rfl) (fun _ _ _ h => h) rfl ?_ hHeld ?_
          rotate_left
          · intro w' hSw; go_simp; all_goals with_reducible rfl
          try simp only [Act.put, List.setIfInBounds_toArray, List.set_cons_zero, List.set_cons_succ]
          refine take_in (i := 7) (v := ?_) rfl (by kernel_rfl) (fun _ _ _ h => h) rfl ?_ hHeld ?_
          rotate_left
          · intro w' hSw; go_simp; all_goals with_reducible rfl
          try simp only [Act.put, List.setIfInBounds_toArray, List.set_cons_zero, List.set_cons_succ]
          refine ready_one (i := 8) rfl (by kernel_rfl) (fun K hK => ?_)
          go_simp
          go_at_call 48
          refine (ph_an x y HTX.out _ g _ _ _ hnq hk0 hk1 hk2 hk3).mono ?_
          rintro r x1 ⟨rfl, b1⟩
          have hm1 : Blk x1 wr.heap.size 59 #[.int .i64 2, .int .i64 0] := (b1.block _ HM7.out.lt).trans HM7.out
          have k1 : (fun w' => Below w1.heap.size w1 w' ∧ (w'.cell? ⟨wr.heap.size, 0, none⟩ = some (.int .i64 2) ∧ w'.cell? ⟨wr.heap.size, 1, none⟩ = some (.int .i64 0))) x1 := ⟨below_step k0.1 b1 k0.1.size, hm1.cell 0, hm1.cell 1⟩
          have o1 : GOwn 72 2 phC x1 w1.heap.size (.slice (some ⟨g, 0, none⟩) q cp) (s.reverse) := own_split phC_len (ys := [x, y]) (by have := o0.keep (SameAt.of_below b1); simpa using this) HLQ.out
          clear b1
          refine hK.out _ x1 (k1) (fun hHeld => ?_)
          clear hK K
          try simp only [Act.put, List.setIfInBounds_toArray, List.set_cons_zero, List.set_cons_succ]
          refine ready_one (i := 9) rfl (by kernel_rfl) (fun K hK => ?_)
          go_simp
          have k2 : (fun w' => Below w1.heap.size w1 w' ∧ (w'.cell? ⟨wr.heap.size, 0, none⟩ = some (.int .i64 2) ∧ w'.cell? ⟨wr.heap.size, 1, none⟩ = some (.int .i64 0))) (x1.alloc (.cells #[.string ⟨(txtT (.an x y)).toArray⟩, .int .i64 (lastM (.an x y)).1] 72)) := ⟨k1.1.alloc k1.1.size _, (World.cell?_of_block (a := ⟨wr.heap.size, 0, none⟩) (Below.heap_alloc x1 _ _ hm1.lt)).trans k1.2.1, (World.cell?_of_block (a := ⟨wr.heap.size, 1, none⟩) (Below.heap_alloc x1 _ _ hm1.lt)).trans k1.2.2⟩
          refine hK.out _ (x1.alloc (.cells #[.string ⟨(txtT (.an x y)).toArray⟩, .int .i64 (lastM (.an x y)).1] 72)) (k2) (fun hHeld => ?_)
          clear hK K
          try simp only [Act.put, List.setIfInBounds_toArray, List.set_cons_zero, List.set_cons_succ]
          refine ready_one (i := 10) rfl (by kernel_rfl) (fun K hK => ?_)
          obtain ⟨g9, c9, x9, r9, o9, q9⟩ := run_app_ph x1 w1.heap.size (.slice (some ⟨g, 0, none⟩) q cp) s.reverse q HLQ.out (.an x y) o1 (by omega) k1.1.size
          refine step_append (s := .tmp 43) (x := .tmp 50) rfl rfl r9 ?_
          have k9 : (fun w' => Below w1.heap.size w1 w' ∧ (w'.cell? ⟨wr.heap.size, 0, none⟩ = some (.int .i64 2) ∧ w'.cell? ⟨wr.heap.size, 1, none⟩ = some (.int .i64 0))) x9 := ⟨k2.1.grown q9 k2.1.size (fun g' hg' => (o1.ge g' hg').1), q9.cell k2.2.1 (by simp only [Value.ownBlock]; intro e; injection e with e; exact absurd e.symm (Nat.ne_of_lt HGL.out)), q9.cell k2.2.2 (by simp only [Value.ownBlock]; intro e; injection e with e; exact absurd e.symm (Nat.ne_of_lt HGL.out))⟩
          refine hK.out _ x9 (k9) (fun hHeld => ?_)
          clear hK K
          try simp only [Act.put, List.setIfInBounds_toArray, List.set_cons_zero, List.set_cons_succ]
          refine take_in (i := 11) (v := ?_) rfl (by kernel_rfl) (fun _ _ _ h => h) rfl ?_ hHeld ?_
          rotate_left
          · intro w' hSw; go_simp; all_goals with_reducible rfl
          try simp only [Act.put, List.setIfInBounds_toArray, List.set_cons_zero, List.set_cons_succ]
          refine wpAnyH_done (by kernel_rfl) ?_ _
          have HF9 : Hid (GOwn 72 2 phC x9 w1.heap.size (.slice (some ⟨g9, 0, none⟩) (q + 1) c9) ((.an x y :: s).reverse) ∧ Below w1.heap.size w1 x9) := Lib.hid ⟨by rw [List.reverse_cons]; exact o9, k9.1⟩
          clear k0 k1 k2 k9 o0 o1 o9 q9 r9 hm1 hHeld
          go_wp2_with fail
          go_roundw
          case rel => exact ⟨k + 1, .an x y :: s, some ⟨g9, 0, none⟩, q + 1, c9, by go_num, by omega, rfl, Lib.hid (by rw [run_take HX.out HR.out]; exact HS.out), HF9⟩
          case measure => simp [intOf]; omega
        · obtain ⟨rfl, rfl⟩ := Prod.mk.inj hm'
          clear hm'
          have HO2 : Hid (GOwn 72 2 phC wr w1.heap.size (.slice B n cp) (s.reverse ++ [x, y]) ∧ Below w1.heap.size w1 wr) := Lib.hid ⟨by have := HO.out.1; simpa using this, HO.out.2⟩
          clear HO
          have HO := HO2
          clear HO2
          have HS := Lib.hid hs
          clear hs
          rcases own_some HO.out.1 with ⟨-, -, -, hst⟩ | ⟨g, rfl, hnl, hncp, hbg, hgl⟩
          · exact absurd hst (by simp)
          obtain ⟨q, hq⟩ : ∃ q, s.length = q := ⟨_, rfl⟩
          have hn : n = q + 2 := by rw [hnl]; simp [hq]
          have HLQ : Hid (s.reverse.length = q) := Lib.hid (by rw [List.length_reverse]; exact hq)
          have hg1 : ¬ ((n : Int) < 2) := by omega
          have hw : IntKind.i64.wrap ((n : Int) - 2) = (q : Int) := by have h9 := HN40.out; rw [IntWalk.i64_in _ (by omega)]; omega
          have hq0 : (0 : Int) ≤ (q : Int) := by omega
          have hqc : (q : Int) ≤ (cp : Int) := by omega
          have hqn : (q : Int) ≤ (n : Int) := by omega
          have hqc' : q ≤ cp := by omega
          have hqn' : q ≤ n := by omega
          have hcq : ¬ cp = q := by omega
          have hcz : ¬ cp = 0 := by omega
          have hnq : 2 ≤ n - q := by omega
          have h40q : q ≤ 40 := by have := HN40.out; omega
          have HGL := Lib.hid hgl
          clear hq hnl hgl hn hncp
          have HTX : Hid ((txtT (.vel x y)).length ≤ 900000) := Lib.hid (by have := run_txt (l := t.take (k + 1)) (T := .vel x y) (s := s) (by rw [run_take HX.out HR.out]; exact HS.out); have h3 := List.length_take_le (k + 1) t; have h4 := H40.out; omega)
          go_wp2_with fail
          refine (parts_vel _).mono ?_
          rintro r w7 ⟨rfl, b7⟩
          have HM7 := Lib.hid (mbox b7)
          have HB7 : Hid (Below w1.heap.size w1 w7) := Lib.hid (below_step (HO.out.2.alloc HO.out.2.size (.cells #[.int .i64 3, .int .i64 0] 59)) b7 (by rw [World.size_alloc]; exact Nat.le_succ_of_le HO.out.2.size))
          have HO7 : Hid (GOwn 72 2 phC w7 w1.heap.size (.slice (some ⟨g, 0, none⟩) n cp) (s.reverse ++ [x, y])) := Lib.hid ((HO.out.1.keep (SameAt.of_below ((Below.refl _ wr).alloc (Nat.le_refl _) (.cells #[.int .i64 3, .int .i64 0] 59)))).keep (SameAt.of_below b7))
          clear b7
          go_upto_region 12 with fail
          have k0 : (fun w' => Below w1.heap.size w1 w' ∧ (w'.cell? ⟨wr.heap.size, 0, none⟩ = some (.int .i64 3) ∧ w'.cell? ⟨wr.heap.size, 1, none⟩ = some (.int .i64 0))) w7.drew := ⟨HB7.out.drew, HM7.out.cell 0, HM7.out.cell 1⟩
          have o0 : GOwn 72 2 phC w7.drew w1.heap.size (.slice (some ⟨g, 0, none⟩) n cp) (s.reverse ++ [x, y]) := HO7.out
          have hk0 : w7.drew.cell? ⟨g, q * 2, none⟩ = some (.string ⟨(txtT x).toArray⟩) := by
            have hx9 := own_cell phC_len o0 (i := q) (x := x) (by rw [← HLQ.out]; simp) (j := 0) rfl
            rwa [show q * 2 + 0 = q * 2 from by omega] at hx9
          have hk1 : w7.drew.cell? ⟨g, q * 2 + 1, none⟩ = some (.int .i64 (lastM x).1) := by
            have hx9 := own_cell phC_len o0 (i := q) (x := x) (by rw [← HLQ.out]; simp) (j := 1) rfl
            rwa [show q * 2 + 1 = q * 2 + 1 from by omega] at hx9
          have hk2 : w7.drew.cell? ⟨g, q * 2 + 2, none⟩ = some (.string ⟨(txtT y).toArray⟩) := by
            have hx9 := own_cell phC_len o0 (i := (q + 1)) (x := y) (by rw [← HLQ.out]; simp) (j := 0) rfl
            rwa [show (q + 1) * 2 + 0 = q * 2 + 2 from by omega] at hx9
          have hk3 : w7.drew.cell? ⟨g, q * 2 + 3, none⟩ = some (.int .i64 (lastM y).1) := by
            have hx9 := own_cell phC_len o0 (i := (q + 1)) (x := y) (by rw [← HLQ.out]; simp) (j := 1) rfl
            rwa [show (q + 1) * 2 + 1 = q * 2 + 3 from by omega] at hx9
          refine wp_region_held_drew (S := fun w' => Below w1.heap.size w1 w' ∧ (w'.cell? ⟨wr.heap.size, 0, none⟩ = some (.int .i64 3) ∧ w'.cell? ⟨wr.heap.size, 1, none⟩ = some (.int .i64 0))) (by kernel_rfl) k0 (fun hHeld => ?_)
          refine take_in (i := 0) (v := ?_) rfl (by kernel_rfl) (fun _ _ _ h => h) rfl ?_ hHeld ?_
          rotate_left
          · intro w' hSw; go_simp; all_goals with_reducible rfl
          try simp only [Act.put, List.setIfInBounds_toArray, List.set_cons_zero, List.set_cons_succ]
          refine take_in (i := 1) (v := ?_) rfl (by kernel_rfl) (fun _ _ _ h => h) rfl ?_ hHeld ?_
          rotate_left
          · intro w' hSw; go_simp; all_goals with_reducible rfl
          try simp only [Act.put, List.setIfInBounds_toArray, List.set_cons_zero, List.set_cons_succ]
          refine take_in (i := 2) (v := ?_) rfl (by kernel_rfl) (fun _ _ _ h => h) rfl ?_ hHeld ?_
          rotate_left
          · intro w' hSw; go_simp; all_goals with_reducible rfl
          try simp only [Act.put, List.setIfInBounds_toArray, List.set_cons_zero, List.set_cons_succ]
          refine take_in (i := 3) (v := ?_) rfl (by kernel_rfl) (fun _ _ _ h => h) rfl ?_ hHeld ?_
          rotate_left
          · intro w' hSw; go_simp; all_goals with_reducible rfl
          try simp only [Act.put, List.setIfInBounds_toArray, List.set_cons_zero, List.set_cons_succ]
          refine take_in (i := 4) (v := ?_) rfl (by kernel_rfl) (fun _ _ _ h => h) rfl ?_ hHeld ?_
          rotate_left
          · intro w' hSw; obtain ⟨-, d0, d1⟩ := hSw; go_simp; all_goals with_reducible rfl
          try simp only [Act.put, List.setIfInBounds_toArray, List.set_cons_zero, List.set_cons_succ]
          refine take_in (i := 5) (v := ?_) rfl (by kernel_rfl) (fun _ _ _ h => h) rfl ?_ hHeld ?_
          rotate_left
          · intro w' hSw; go_simp; all_goals with_reducible rfl
          try simp only [Act.put, List.setIfInBounds_toArray, List.set_cons_zero, List.set_cons_succ]
          refine take_in (i := 6) (v := ?_) rfl (by kernel_rfl) (fun _ _ _ h => h) rfl ?_ hHeld ?_
          rotate_left
          · intro w' hSw; go_simp; all_goals with_reducible rfl
          try simp only [Act.put, List.setIfInBounds_toArray, List.set_cons_zero, List.set_cons_succ]
          refine take_in (i := 7) (v := ?_) rfl (by kernel_rfl) (fun _ _ _ h => h) rfl ?_ hHeld ?_
          rotate_left
          · intro w' hSw; go_simp; all_goals with_reducible rfl
          try simp only [Act.put, List.setIfInBounds_toArray, List.set_cons_zero, List.set_cons_succ]
          refine ready_one (i := 8) rfl (by kernel_rfl) (fun K hK => ?_)
          go_simp
          go_at_call 48
          refine (ph_vel x y HTX.out _ g _ _ _ hnq hk0 hk1 hk2 hk3).mono ?_
          rintro r x1 ⟨rfl, b1⟩
          have hm1 : Blk x1 wr.heap.size 59 #[.int .i64 3, .int .i64 0] := (b1.block _ HM7.out.lt).trans HM7.out
          have k1 : (fun w' => Below w1.heap.size w1 w' ∧ (w'.cell? ⟨wr.heap.size, 0, none⟩ = some (.int .i64 3) ∧ w'.cell? ⟨wr.heap.size, 1, none⟩ = some (.int .i64 0))) x1 := ⟨below_step k0.1 b1 k0.1.size, hm1.cell 0, hm1.cell 1⟩
          have o1 : GOwn 72 2 phC x1 w1.heap.size (.slice (some ⟨g, 0, none⟩) q cp) (s.reverse) := own_split phC_len (ys := [x, y]) (by have := o0.keep (SameAt.of_below b1); simpa using this) HLQ.out
          clear b1
          refine hK.out _ x1 (k1) (fun hHeld => ?_)
          clear hK K
          try simp only [Act.put, List.setIfInBounds_toArray, List.set_cons_zero, List.set_cons_succ]
          refine ready_one (i := 9) rfl (by kernel_rfl) (fun K hK => ?_)
          go_simp
          have k2 : (fun w' => Below w1.heap.size w1 w' ∧ (w'.cell? ⟨wr.heap.size, 0, none⟩ = some (.int .i64 3) ∧ w'.cell? ⟨wr.heap.size, 1, none⟩ = some (.int .i64 0))) (x1.alloc (.cells #[.string ⟨(txtT (.vel x y)).toArray⟩, .int .i64 (lastM (.vel x y)).1] 72)) := ⟨k1.1.alloc k1.1.size _, (World.cell?_of_block (a := ⟨wr.heap.size, 0, none⟩) (Below.heap_alloc x1 _ _ hm1.lt)).trans k1.2.1, (World.cell?_of_block (a := ⟨wr.heap.size, 1, none⟩) (Below.heap_alloc x1 _ _ hm1.lt)).trans k1.2.2⟩
          refine hK.out _ (x1.alloc (.cells #[.string ⟨(txtT (.vel x y)).toArray⟩, .int .i64 (lastM (.vel x y)).1] 72)) (k2) (fun hHeld => ?_)
          clear hK K
          try simp only [Act.put, List.setIfInBounds_toArray, List.set_cons_zero, List.set_cons_succ]
          refine ready_one (i := 10) rfl (by kernel_rfl) (fun K hK => ?_)
          obtain ⟨g9, c9, x9, r9, o9, q9⟩ := run_app_ph x1 w1.heap.size (.slice (some ⟨g, 0, none⟩) q cp) s.reverse q HLQ.out (.vel x y) o1 (by omega) k1.1.size
          refine step_append (s := .tmp 43) (x := .tmp 50) rfl rfl r9 ?_
          have k9 : (fun w' => Below w1.heap.size w1 w' ∧ (w'.cell? ⟨wr.heap.size, 0, none⟩ = some (.int .i64 3) ∧ w'.cell? ⟨wr.heap.size, 1, none⟩ = some (.int .i64 0))) x9 := ⟨k2.1.grown q9 k2.1.size (fun g' hg' => (o1.ge g' hg').1), q9.cell k2.2.1 (by simp only [Value.ownBlock]; intro e; injection e with e; exact absurd e.symm (Nat.ne_of_lt HGL.out)), q9.cell k2.2.2 (by simp only [Value.ownBlock]; intro e; injection e with e; exact absurd e.symm (Nat.ne_of_lt HGL.out))⟩
          refine hK.out _ x9 (k9) (fun hHeld => ?_)
          clear hK K
          try simp only [Act.put, List.setIfInBounds_toArray, List.set_cons_zero, List.set_cons_succ]
          refine take_in (i := 11) (v := ?_) rfl (by kernel_rfl) (fun _ _ _ h => h) rfl ?_ hHeld ?_
          rotate_left
          · intro w' hSw; go_simp; all_goals with_reducible rfl
          try simp only [Act.put, List.setIfInBounds_toArray, List.set_cons_zero, List.set_cons_succ]
          refine wpAnyH_done (by kernel_rfl) ?_ _
          have HF9 : Hid (GOwn 72 2 phC x9 w1.heap.size (.slice (some ⟨g9, 0, none⟩) (q + 1) c9) ((.vel x y :: s).reverse) ∧ Below w1.heap.size w1 x9) := Lib.hid ⟨by rw [List.reverse_cons]; exact o9, k9.1⟩
          clear k0 k1 k2 k9 o0 o1 o9 q9 r9 hm1 hHeld
          go_wp2_with fail
          go_roundw
          case rel => exact ⟨k + 1, .vel x y :: s, some ⟨g9, 0, none⟩, q + 1, c9, by go_num, by omega, rfl, Lib.hid (by rw [run_take HX.out HR.out]; exact HS.out), HF9⟩
          case measure => simp [intOf]; omega
        · rcases hbad with ⟨hm', hle⟩ | ⟨hm', hle⟩ | ⟨hm', hle⟩ | ⟨e1, e2, e3, e4, e5⟩
          · obtain ⟨rfl, rfl⟩ := Prod.mk.inj hm'
            clear hm'
            have hg1 : ((n : Int) < 1) := by have := HNL.out; omega
            have HTF := Lib.hid (run_stop HX.out HR.out hs)
            clear hs
            go_wp2_with fail
            refine (parts_no _).mono ?_
            rintro r w7 ⟨rfl, b7⟩
            have HB7 : Hid (Below w1.heap.size w1 w7) := Lib.hid (below_step (HO.out.2.alloc HO.out.2.size (.cells #[.int .i64 1, .int .i64 0] 59)) b7 (by rw [World.size_alloc]; exact Nat.le_succ_of_le HO.out.2.size))
            clear b7 hc0 hc1
            have HBL := HB7
            obtain ⟨hz0, hz1, hz2, hz3, hf0, hf1⟩ := HZ.out w7 HBL.out
            have HR9 := Lib.hid (HS9.out w7 HBL.out (.string ⟨#[]⟩) (.int .i64 0))
            go_wp2_with fail
            obtain ⟨hr0, hr1⟩ := HR9.out
            refine bodyPost_ret (v := .tuple #[.agg #[.string ⟨#[]⟩, .int .i64 0], .bool false]) (by simp [results, Tryd.results47, go_sem, hr0, hr1]) rfl ?_
            exact ⟨((below_step HB1.out HB7.out HB1.out.size).setCell (Nat.le_refl _) _).setCell (Nat.le_refl _) _, .inl ⟨HTF.out, rfl⟩⟩
          · obtain ⟨rfl, rfl⟩ := Prod.mk.inj hm'
            clear hm'
            have hg1 : ((n : Int) < 2) := by have := HNL.out; omega
            have HTF := Lib.hid (run_stop HX.out HR.out hs)
            clear hs
            go_wp2_with fail
            refine (parts_an _).mono ?_
            rintro r w7 ⟨rfl, b7⟩
            have HB7 : Hid (Below w1.heap.size w1 w7) := Lib.hid (below_step (HO.out.2.alloc HO.out.2.size (.cells #[.int .i64 2, .int .i64 0] 59)) b7 (by rw [World.size_alloc]; exact Nat.le_succ_of_le HO.out.2.size))
            clear b7 hc0 hc1
            have HBL := HB7
            obtain ⟨hz0, hz1, hz2, hz3, hf0, hf1⟩ := HZ.out w7 HBL.out
            have HR9 := Lib.hid (HS9.out w7 HBL.out (.string ⟨#[]⟩) (.int .i64 0))
            go_wp2_with fail
            obtain ⟨hr0, hr1⟩ := HR9.out
            refine bodyPost_ret (v := .tuple #[.agg #[.string ⟨#[]⟩, .int .i64 0], .bool false]) (by simp [results, Tryd.results47, go_sem, hr0, hr1]) rfl ?_
            exact ⟨((below_step HB1.out HB7.out HB1.out.size).setCell (Nat.le_refl _) _).setCell (Nat.le_refl _) _, .inl ⟨HTF.out, rfl⟩⟩
          · obtain ⟨rfl, rfl⟩ := Prod.mk.inj hm'
            clear hm'
            have hg1 : ((n : Int) < 2) := by have := HNL.out; omega
            have HTF := Lib.hid (run_stop HX.out HR.out hs)
            clear hs
            go_wp2_with fail
            refine (parts_vel _).mono ?_
            rintro r w7 ⟨rfl, b7⟩
            have HB7 : Hid (Below w1.heap.size w1 w7) := Lib.hid (below_step (HO.out.2.alloc HO.out.2.size (.cells #[.int .i64 3, .int .i64 0] 59)) b7 (by rw [World.size_alloc]; exact Nat.le_succ_of_le HO.out.2.size))
            clear b7 hc0 hc1
            have HBL := HB7
            obtain ⟨hz0, hz1, hz2, hz3, hf0, hf1⟩ := HZ.out w7 HBL.out
            have HR9 := Lib.hid (HS9.out w7 HBL.out (.string ⟨#[]⟩) (.int .i64 0))
            go_wp2_with fail
            obtain ⟨hr0, hr1⟩ := HR9.out
            refine bodyPost_ret (v := .tuple #[.agg #[.string ⟨#[]⟩, .int .i64 0], .bool false]) (by simp [results, Tryd.results47, go_sem, hr0, hr1]) rfl ?_
            exact ⟨((below_step HB1.out HB7.out HB1.out.size).setCell (Nat.le_refl _) _).setCell (Nat.le_refl _) _, .inl ⟨HTF.out, rfl⟩⟩
          · have hg1 : True := trivial
            have HTF := Lib.hid (run_stop HX.out HR.out hs)
            clear hs
            go_wp2_with fail
            refine (parts_else mk ma e1 e2 e3 e4 e5 _).mono ?_
            rintro r w7 ⟨rfl, b7⟩
            have HB7 : Hid (Below w1.heap.size w1 w7) := Lib.hid (below_step (HO.out.2.alloc HO.out.2.size (.cells #[.int .i64 mk, .int .i64 ma] 59)) b7 (by rw [World.size_alloc]; exact Nat.le_succ_of_le HO.out.2.size))
            clear b7 hc0 hc1
            have HBL := HB7
            obtain ⟨hz0, hz1, hz2, hz3, hf0, hf1⟩ := HZ.out w7 HBL.out
            have HR9 := Lib.hid (HS9.out w7 HBL.out (.string ⟨#[]⟩) (.int .i64 0))
            go_wp2_with fail
            obtain ⟨hr0, hr1⟩ := HR9.out
            refine bodyPost_ret (v := .tuple #[.agg #[.string ⟨#[]⟩, .int .i64 0], .bool false]) (by simp [results, Tryd.results47, go_sem, hr0, hr1]) rfl ?_
            exact ⟨((below_step HB1.out HB7.out HB1.out.size).setCell (Nat.le_refl _) _).setCell (Nat.le_refl _) _, .inl ⟨HTF.out, rfl⟩⟩
      · obtain rfl : k = t.length := by omega
        have HR2 : Hid (run [] t = some st) := Lib.hid (by have := HR.out; rwa [List.take_length] at this)
        rcases run_end HR2.out H40.out with ⟨T, rfl, e1, e2⟩ | ⟨e1, e2⟩
        · have HE := Lib.hid (And.intro e1 e2)
          clear e1 e2
          rcases own_some HO.out.1 with ⟨-, -, -, hst⟩ | ⟨g, rfl, hnl, hncp, hbg, hgl⟩
          · exact absurd hst (by simp)
          · obtain rfl : n = 1 := hnl
            clear hgl
            have hl0 : wr.cell? ⟨g, 0, none⟩ = some (.string ⟨(txtT T).toArray⟩) := by
              have := own_cell phC_len HO.out.1 (i := 0) (x := T) rfl (j := 0) rfl
              simpa using this
            have hl1 : wr.cell? ⟨g, 1, none⟩ = some (.int .i64 (lastM T).1) := by
              have := own_cell phC_len HO.out.1 (i := 0) (x := T) rfl (j := 1) rfl
              simpa using this
            have HBL : Hid (Below w1.heap.size w1 wr) := Lib.hid HO.out.2
            obtain ⟨hz0, hz1, hz2, hz3, hf0, hf1⟩ := HZ.out wr HBL.out
            have HR9 := Lib.hid (HS9.out wr HBL.out (.string ⟨(txtT T).toArray⟩) (.int .i64 (lastM T).1))
            go_wp2_with fail
            obtain ⟨hr0, hr1⟩ := HR9.out
            refine bodyPost_ret (v := .tuple #[.agg #[.string ⟨(txtT T).toArray⟩, .int .i64 (lastM T).1], .bool true]) (by simp [results, Tryd.results47, go_sem, hr0, hr1]) rfl ?_
            exact ⟨((below_step HB1.out HO.out.2 HB1.out.size).setCell (Nat.le_refl _) _).setCell (Nat.le_refl _) _, .inr ⟨T, HE.out.1, HE.out.2, rfl⟩⟩
        · have hn1 : ((n : Int) != 1) = true := by have := HNL.out; simp; omega
          have hn2 : ((n : Int) == 1) = false := by have := HNL.out; simp; omega
          have HTF := Lib.hid e2
          clear e1 e2
          have HBL : Hid (Below w1.heap.size w1 wr) := Lib.hid HO.out.2
          obtain ⟨hz0, hz1, hz2, hz3, hf0, hf1⟩ := HZ.out wr HBL.out
          have HR9 := Lib.hid (HS9.out wr HBL.out (.string ⟨#[]⟩) (.int .i64 0))
          go_wp2_with fail
          obtain ⟨hr0, hr1⟩ := HR9.out
          refine bodyPost_ret (v := .tuple #[.agg #[.string ⟨#[]⟩, .int .i64 0], .bool false]) (by simp [results, Tryd.results47, go_sem, hr0, hr1]) rfl ?_
          exact ⟨((below_step HB1.out HO.out.2 HB1.out.size).setCell (Nat.le_refl _) _).setCell (Nat.le_refl _) _, .inl ⟨HTF.out, rfl⟩⟩

end Go.Proofs.YtfdlfgokoponmaaDoor
