/- Contracts, facts and walks that the laws of this seat lean on, laid together by a program of ours (mkmerge.py) out of: Lp. Conditions: stated at each. -/
import Derived.Test.YtebebcomhdjihaaL6
namespace Go.Proofs.Ytebebcomhdjihaa
open Go.RowKit
set_option linter.unusedVariables false

theorem IRd.take15 {w : World} {A : Option Addr} {n c : Nat} {xs : List Int} (h : IRd w (.slice A n c) xs) {k : Nat} (hk : k ≤ n) : IRd w (.slice A k c) (xs.take k) := by
  obtain ⟨A', c', e, hl, hm, hc⟩ := h
  injection e with e1 e2 e3
  subst e1
  subst e2
  subst e3
  have hlen : (xs.take k).length = k := by simp; omega
  refine ⟨A, c, by rw [hlen], by omega, hm, fun h0 => ?_⟩
  obtain ⟨b, off, hA, hb, hcell⟩ := hc (by omega)
  refine ⟨b, off, hA, hb, fun i x hx => hcell i x ?_⟩
  rw [List.getElem?_take] at hx
  split at hx
  · exact hx
  · cases hx

theorem GRd.take15 {α : Type} {c : Nat} {enc : α → List Value} {w : World} {A : Option Addr} {n cp : Nat} {xs : List α} (h : GRd c enc w (.slice A n cp) xs) {k : Nat} (hk : k ≤ n) : GRd c enc w (.slice A k cp) (xs.take k) := by
  obtain ⟨A', c', e, hl, hm, hc⟩ := h
  injection e with e1 e2 e3
  subst e1
  subst e2
  subst e3
  have hlen : (xs.take k).length = k := by simp; omega
  refine ⟨A, cp, by rw [hlen], by omega, hm, fun h0 => ?_⟩
  obtain ⟨b, off, hA, hb, hcell⟩ := hc (by omega)
  refine ⟨b, off, hA, hb, fun i x hx => hcell i x ?_⟩
  rw [List.getElem?_take] at hx
  split at hx
  · exact hx
  · cases hx

theorem nil_qrd (w : World) : QRd w (.slice none 0 0) [] := ⟨none, 0, rfl, Nat.le_refl _, by omega, fun h => absurd h (by simp)⟩

theorem nil_ird (w : World) : IRd w (.slice none 0 0) [] := ⟨none, 0, rfl, Nat.le_refl _, by omega, fun h => absurd h (by simp)⟩

def negL (ss : List Int) : List Int := ss.map (fun x => -x)

theorem negL_len (ss : List Int) : (negL ss).length ≤ ss.length ∧ ss.length ≤ (negL ss).length := by unfold negL; simp

theorem plB_negL (p : Pl) : plB (p.1, negL p.2) = plB p := plB_neg p

theorem neg_at {ss : List Int} {k : Nat} {x : Int} (h : ss[k]? = some x) : (negL ss)[k]? = some (-x) := by unfold negL; rw [List.getElem?_map, h]; rfl

set_option maxRecDepth 100000 in
set_option maxHeartbeats 16000000 in
theorem FnPlaceOk_walk (a0 : Option Addr) (len0 cap0 : Nat) (z0 : List Int) (w : World) (w0 : IsRowC .u8 w a0 len0 cap0 z0) :
    Calls Try.prog 5 #[.slice a0 len0 cap0] w fun e w' => e = .returned (.bool true) ∧ Below w.heap.size w w' := by
  by_cases hlen : 1048576 < len0
  · clear w0
    go_enter Try.func5, Try.ntmps5
    go_wp2
    go_ret
    exact ⟨rfl, Below.refl _ _⟩
  · have hlen' : decide (1048576 < len0) = false := by simpa using hlen
    go_enter Try.func5, Try.ntmps5
    go_wp2_with fail
    refine (drawPlaceOk_any _ _ _ _ _ w0).mono ?_
    rintro e w1 ⟨v, u, p, rfl, hp, hs, b1⟩
    obtain ⟨Av, cv, rfl, hl1, hm1⟩ := hp.1.1.form
    obtain ⟨Au, cu, rfl, hl2, hm2, -⟩ := id hp.2.1
    clear hlen hlen' w0
    have HS := Lib.hid hs
    have HB := Lib.hid b1
    have HP := Lib.hid (hp.mono (T := fun _ => True) (fun _ _ => trivial))
    clear hp hs b1
    obtain ⟨k, hk⟩ : ∃ k, plB p = k := ⟨_, rfl⟩
    have HK := Lib.hid hk
    clear hk
    obtain ⟨w2, hw2⟩ : ∃ X, w1.alloc (.cells #[(.slice Av p.1.length cv), (.slice Au p.2.length cu)] 26) = X := ⟨_, rfl⟩
    have bw2 : Below w1.heap.size w1 w2 := by rw [← hw2]; exact (Below.refl _ _).alloc (Nat.le_refl _) _
    have FP := Lib.hid (show Blk w2 w1.heap.size 26 #[(.slice Av p.1.length cv), (.slice Au p.2.length cu)] by rw [← hw2]; exact heap_alloc_new _ _)
    have sw2 : w1.heap.size < w2.heap.size := by rw [← hw2]; simp
    have Ew2 := Lib.hid hw2
    clear hw2
    have zw2 := bw2.size
    replace HP := Lib.hid (HP.out.below bw2)
    replace HB := Lib.hid (below_step HB.out bw2 HB.out.size)
    clear bw2
    go_upto_region 4 with fail
    rw [Ew2.out]
    clear Ew2
    have qFP0 := FP.out.cell 0
    have qFP1 := FP.out.cell 1
    go_wp2_with fail
    refine (implPlaceOk_any w2 _ _ p.1 p.2 HP.out.1.1 HP.out.2.1).mono ?_
    rintro e w3 ⟨rfl, bw3⟩
    rw [show plB (p.1, p.2) = k from HK.out]
    clear qFP0 qFP1
    have zw3 := bw3.size
    replace HP := Lib.hid (HP.out.below bw3)
    replace FP := Lib.hid (FP.out.below15 bw3)
    replace HB := Lib.hid (below_step HB.out bw3 HB.out.size)
    clear bw3
    have qFP0 := FP.out.cell 0
    have qFP1 := FP.out.cell 1
    go_wp2_with fail
    refine (specPlaceOk_any w3 _ _ p.1 p.2 HP.out.1.1 HP.out.2.1).mono ?_
    rintro e w4 ⟨rfl, bw4⟩
    rw [show plB (p.1, p.2) = k from HK.out]
    clear qFP0 qFP1
    have zw4 := bw4.size
    replace HP := Lib.hid (HP.out.below bw4)
    replace FP := Lib.hid (FP.out.below15 bw4)
    replace HB := Lib.hid (below_step HB.out bw4 HB.out.size)
    clear bw4
    have hl4 : p.2.length ≤ 4 := HS.out.2.1
    cases k
    · have H0 : Hid (AppRel w4 (negL p.2) 0 (.slice (some ⟨w4.heap.size, 0, none⟩) 0 0) (w4.alloc (.cells #[] 3))) := Lib.hid (app_start w4 _)
      obtain ⟨i0, hi, hz0, hz1, hz2⟩ := info_parts Try_intinfo
      go_wp2_with fail
      go_loopw [5, 6] (fun q i wr => ∃ j : Nat, i = .int .i64 j ∧ j ≤ p.2.length ∧ Hid (AppRel w4 (negL p.2) j q wr)) (fun _ i _ => p.2.length - (intOf i).toNat)
      case atStart => exact ⟨0, rfl, Nat.zero_le _, H0⟩
      case round =>
        obtain ⟨j, rfl, hj, HF⟩ := hrel
        clear H0
        have hbl := HF.out.below
        have HPr := Lib.hid (HP.out.below hbl)
        have FPr := Lib.hid (FP.out.below15 hbl)
        have HBr := Lib.hid (below_step HB.out hbl HB.out.size)
        clear hbl HP FP HB
        by_cases hlt : j < p.2.length
        · obtain ⟨b, off, x, rfl, -, hx, hcx⟩ := HPr.out.2.1.at_ hlt
          have hxs := HS.out.2.2 x (List.mem_of_getElem? hx)
          have hwr : IntKind.i64.wrap (-x) = -x := IntWalk.i64_in _ (by omega)
          have HS2 := Lib.hid (neg_at hx)
          have hown0 := HF.out.1
          unfold IOwn at hown0
          have hown := Lib.hid (World.ownsRow.alloc (w := wr) hown0 (.cells #[.int .i64 (-x)] 3))
          have hsz := HF.out.2.size
          have q0 := FPr.out.cell 0
          have q1 := FPr.out.cell 1
          clear hx hown0 hxs
          go_wp2_with (at_builtin; refine wpList_append_own _ rfl _ _ 24 rfl w4.heap.size 3 i0 (.int .i64 0) 1 8 Try.underlying24 hi hz0 hz1 hz2 rfl (by decide) _ _ _ rfl hown.out ⟨wr.heap.size, 0, none⟩ 1 1 [.int .i64 (-x)] rfl rfl ?c1 one_int ?c3 ?c4 ?c5 ?_)
          case c1 => exact one_new wr _ _
          case c3 => unfold maxLen; simp; omega
          case c4 => simp; omega
          case c5 => simp; omega
          intro v' w' hown' hgrow _
          have HL := Lib.hid (HF.out.step HS2.out (show IOwn w' w4.heap.size v' ((negL p.2).take j ++ [-x]) from by simpa [IOwn] using hown') (grown_after (w := wr) ((Below.refl _ wr).alloc (Nat.le_refl _) _) hgrow))
          clear hown' hgrow hown hi hz0 hz1 hz2 q0 q1
          go_wp2_with fail
          go_roundw
          case rel => exact ⟨j + 1, by go_num, by omega, HL⟩
          case measure => simp [intOf]; omega
        · obtain ⟨o1, -⟩ := HF.out.all (by have := (negL_len p.2).1; omega)
          have O1 := Lib.hid o1.rd
          obtain ⟨An, cn, rfl, -, -, -⟩ := id O1.out
          clear o1 HF hi hz0 hz1 hz2
          have q0 := FPr.out.cell 0
          have q1 := FPr.out.cell 1
          go_upto_region 13 with fail
          clear q0 q1
          have HCX : Hid (∀ w', Below wr.heap.size wr w' → w'.cell? ⟨w1.heap.size, 0, none⟩ = some (.slice Av p.1.length cv) ∧ w'.cell? ⟨w1.heap.size, 1, none⟩ = some (.slice Au p.2.length cu)) := Lib.hid (fun w' hb => ⟨(FPr.out.below15 hb).cell 0, (FPr.out.below15 hb).cell 1⟩)
          have s0 : Below wr.heap.size wr wr.drew := (Below.refl _ _).drew
          refine wp_region_held_drew (S := fun w' => Below wr.heap.size wr w') (by kernel_rfl) s0 (fun hHeld => ?_)
          generalize wr.drew = w5 at *
          refine take_in (i := 0) (v := ?_) rfl (by kernel_rfl) (fun _ _ _ h => h) rfl ?_ hHeld ?_
          rotate_left
          · intro w' hSw; go_simp; all_goals with_reducible rfl
          try simp only [Act.put, List.setIfInBounds_toArray, List.set_cons_zero, List.set_cons_succ]
          refine ready_one (i := 1) rfl (by kernel_rfl) (fun K hK => ?_)
          go_simp
          go_at_call 18
          refine (implPlaceOk_any w5 _ _ [] [] (nil_qrd _) (nil_ird _)).mono ?_
          rintro e w6 ⟨rfl, bw6⟩
          rw [pl_nil]
          have sw6 := below_step s0 bw6 s0.size
          replace s0 := sw6
          refine hK.out _ _ s0 (fun hHeld => ?_)
          clear hK K sw6
          try simp only [Act.put, List.setIfInBounds_toArray, List.set_cons_zero, List.set_cons_succ]
          refine take_in (i := 2) (v := ?_) rfl (by kernel_rfl) (fun _ _ _ h => h) rfl ?_ hHeld ?_
          rotate_left
          · intro w' hSw; go_simp; all_goals with_reducible rfl
          try simp only [Act.put, List.setIfInBounds_toArray, List.set_cons_zero, List.set_cons_succ]
          refine take_in (i := 3) (v := ?_) rfl (by kernel_rfl) (fun _ _ _ h => h) rfl ?_ hHeld ?_
          rotate_left
          · intro w' hSw; obtain ⟨q0, q1⟩ := HCX.out w' hSw; go_simp; all_goals with_reducible rfl
          try simp only [Act.put, List.setIfInBounds_toArray, List.set_cons_zero, List.set_cons_succ]
          refine take_in (i := 4) (v := ?_) rfl (by kernel_rfl) (fun _ _ _ h => h) rfl ?_ hHeld ?_
          rotate_left
          · intro w' hSw; obtain ⟨q0, q1⟩ := HCX.out w' hSw; go_simp; all_goals with_reducible rfl
          try simp only [Act.put, List.setIfInBounds_toArray, List.set_cons_zero, List.set_cons_succ]
          refine take_in (i := 5) (v := ?_) rfl (by kernel_rfl) (fun _ _ _ h => h) rfl ?_ hHeld ?_
          rotate_left
          · intro w' hSw; go_simp; all_goals with_reducible rfl
          try simp only [Act.put, List.setIfInBounds_toArray, List.set_cons_zero, List.set_cons_succ]
          refine take_in (i := 6) (v := ?_) rfl (by kernel_rfl) (fun _ _ _ h => h) rfl ?_ hHeld ?_
          rotate_left
          · intro w' hSw; go_simp; all_goals with_reducible rfl
          try simp only [Act.put, List.setIfInBounds_toArray, List.set_cons_zero, List.set_cons_succ]
          refine take_in (i := 8) (v := ?_) rfl (by kernel_rfl) (fun _ _ _ h => h) rfl ?_ hHeld ?_
          rotate_left
          · intro w' hSw; go_simp; all_goals with_reducible rfl
          try simp only [Act.put, List.setIfInBounds_toArray, List.set_cons_zero, List.set_cons_succ]
          refine ready_one (i := 7) rfl (by kernel_rfl) (fun K hK => ?_)
          go_simp
          go_at_call 18
          refine (implPlaceOk_any w6 _ _ p.1 (negL p.2) (HPr.out.below s0).1.1 (O1.out.keep (SameAt.of_below s0))).mono ?_
          rintro e w7 ⟨rfl, bw7⟩
          rw [plB_negL p, HK.out]
          have sw7 := below_step s0 bw7 s0.size
          replace s0 := sw7
          refine hK.out _ _ s0 (fun hHeld => ?_)
          clear hK K sw7
          try simp only [Act.put, List.setIfInBounds_toArray, List.set_cons_zero, List.set_cons_succ]
          refine take_in (i := 9) (v := ?_) rfl (by kernel_rfl) (fun _ _ _ h => h) rfl ?_ hHeld ?_
          rotate_left
          · intro w' hSw; go_simp; all_goals with_reducible rfl
          try simp only [Act.put, List.setIfInBounds_toArray, List.set_cons_zero, List.set_cons_succ]
          refine take_in (i := 10) (v := ?_) rfl (by kernel_rfl) (fun _ _ _ h => h) rfl ?_ hHeld ?_
          rotate_left
          · intro w' hSw; go_simp; all_goals with_reducible rfl
          try simp only [Act.put, List.setIfInBounds_toArray, List.set_cons_zero, List.set_cons_succ]
          refine take_in (i := 11) (v := ?_) rfl (by kernel_rfl) (fun _ _ _ h => h) rfl ?_ hHeld ?_
          rotate_left
          · intro w' hSw; go_simp; all_goals with_reducible rfl
          try simp only [Act.put, List.setIfInBounds_toArray, List.set_cons_zero, List.set_cons_succ]
          refine take_in (i := 12) (v := ?_) rfl (by kernel_rfl) (fun _ _ _ h => h) rfl ?_ hHeld ?_
          rotate_left
          · intro w' hSw; go_simp; all_goals with_reducible rfl
          try simp only [Act.put, List.setIfInBounds_toArray, List.set_cons_zero, List.set_cons_succ]
          refine take_in (i := 13) (v := ?_) rfl (by kernel_rfl) (fun _ _ _ h => h) rfl ?_ hHeld ?_
          rotate_left
          · intro w' hSw; go_simp; all_goals with_reducible rfl
          try simp only [Act.put, List.setIfInBounds_toArray, List.set_cons_zero, List.set_cons_succ]
          refine take_in (i := 14) (v := ?_) rfl (by kernel_rfl) (fun _ _ _ h => h) rfl ?_ hHeld ?_
          rotate_left
          · intro w' hSw; go_simp; all_goals with_reducible rfl
          try simp only [Act.put, List.setIfInBounds_toArray, List.set_cons_zero, List.set_cons_succ]
          refine take_out (i := 15) rfl (by kernel_rfl) (fun _ _ _ h => h) rfl hHeld ?_
          try simp only [Act.put, List.setIfInBounds_toArray, List.set_cons_zero, List.set_cons_succ]
          refine take_out (i := 16) rfl (by kernel_rfl) (fun _ _ _ h => h) rfl hHeld ?_
          try simp only [Act.put, List.setIfInBounds_toArray, List.set_cons_zero, List.set_cons_succ]
          refine take_in (i := 17) (v := ?_) rfl (by kernel_rfl) (fun _ _ _ h => h) rfl ?_ hHeld ?_
          rotate_left
          · intro w' hSw; go_simp; all_goals with_reducible rfl
          try simp only [Act.put, List.setIfInBounds_toArray, List.set_cons_zero, List.set_cons_succ]
          refine take_in (i := 18) (v := ?_) rfl (by kernel_rfl) (fun _ _ _ h => h) rfl ?_ hHeld ?_
          rotate_left
          · intro w' hSw; go_simp; all_goals with_reducible rfl
          try simp only [Act.put, List.setIfInBounds_toArray, List.set_cons_zero, List.set_cons_succ]
          refine take_out (i := 19) rfl (by kernel_rfl) (fun _ _ _ h => h) rfl hHeld ?_
          try simp only [Act.put, List.setIfInBounds_toArray, List.set_cons_zero, List.set_cons_succ]
          refine take_out (i := 20) rfl (by kernel_rfl) (fun _ _ _ h => h) rfl hHeld ?_
          try simp only [Act.put, List.setIfInBounds_toArray, List.set_cons_zero, List.set_cons_succ]
          refine take_out (i := 21) rfl (by kernel_rfl) (fun _ _ _ h => h) rfl hHeld ?_
          try simp only [Act.put, List.setIfInBounds_toArray, List.set_cons_zero, List.set_cons_succ]
          refine take_out (i := 22) rfl (by kernel_rfl) (fun _ _ _ h => h) rfl hHeld ?_
          try simp only [Act.put, List.setIfInBounds_toArray, List.set_cons_zero, List.set_cons_succ]
          refine take_out (i := 23) rfl (by kernel_rfl) (fun _ _ _ h => h) rfl hHeld ?_
          try simp only [Act.put, List.setIfInBounds_toArray, List.set_cons_zero, List.set_cons_succ]
          refine take_out (i := 24) rfl (by kernel_rfl) (fun _ _ _ h => h) rfl hHeld ?_
          try simp only [Act.put, List.setIfInBounds_toArray, List.set_cons_zero, List.set_cons_succ]
          refine take_out (i := 25) rfl (by kernel_rfl) (fun _ _ _ h => h) rfl hHeld ?_
          try simp only [Act.put, List.setIfInBounds_toArray, List.set_cons_zero, List.set_cons_succ]
          refine take_out (i := 26) rfl (by kernel_rfl) (fun _ _ _ h => h) rfl hHeld ?_
          try simp only [Act.put, List.setIfInBounds_toArray, List.set_cons_zero, List.set_cons_succ]
          refine take_out (i := 27) rfl (by kernel_rfl) (fun _ _ _ h => h) rfl hHeld ?_
          try simp only [Act.put, List.setIfInBounds_toArray, List.set_cons_zero, List.set_cons_succ]
          refine take_out (i := 28) rfl (by kernel_rfl) (fun _ _ _ h => h) rfl hHeld ?_
          try simp only [Act.put, List.setIfInBounds_toArray, List.set_cons_zero, List.set_cons_succ]
          refine take_in (i := 29) (v := ?_) rfl (by kernel_rfl) (fun _ _ _ h => h) rfl ?_ hHeld ?_
          rotate_left
          · intro w' hSw; go_simp; all_goals with_reducible rfl
          try simp only [Act.put, List.setIfInBounds_toArray, List.set_cons_zero, List.set_cons_succ]
          refine take_in (i := 30) (v := ?_) rfl (by kernel_rfl) (fun _ _ _ h => h) rfl ?_ hHeld ?_
          rotate_left
          · intro w' hSw; go_simp; all_goals with_reducible rfl
          try simp only [Act.put, List.setIfInBounds_toArray, List.set_cons_zero, List.set_cons_succ]
          refine take_in (i := 31) (v := ?_) rfl (by kernel_rfl) (fun _ _ _ h => h) rfl ?_ hHeld ?_
          rotate_left
          · intro w' hSw; go_simp; all_goals with_reducible rfl
          try simp only [Act.put, List.setIfInBounds_toArray, List.set_cons_zero, List.set_cons_succ]
          refine ready_one (i := 32) rfl (by kernel_rfl) (fun K hK => ?_)
          go_simp
          go_at_call 12
          refine (alive_any _).mono ?_
          rintro e wz ⟨rfl, rfl⟩
          refine hK.out _ _ s0 (fun hHeld => ?_)
          clear hK K
          try simp only [Act.put, List.setIfInBounds_toArray, List.set_cons_zero, List.set_cons_succ]
          refine take_in (i := 33) (v := ?_) rfl (by kernel_rfl) (fun _ _ _ h => h) rfl ?_ hHeld ?_
          rotate_left
          · intro w' hSw; go_simp; all_goals with_reducible rfl
          try simp only [Act.put, List.setIfInBounds_toArray, List.set_cons_zero, List.set_cons_succ]
          refine take_in (i := 34) (v := ?_) rfl (by kernel_rfl) (fun _ _ _ h => h) rfl ?_ hHeld ?_
          rotate_left
          · intro w' hSw; go_simp; all_goals with_reducible rfl
          try simp only [Act.put, List.setIfInBounds_toArray, List.set_cons_zero, List.set_cons_succ]
          clear HCX
          have bz := s0
          have zw7 := bz.size
          replace HPr := Lib.hid (HPr.out.below bz)
          replace FPr := Lib.hid (FPr.out.below15 bz)
          replace HBr := Lib.hid (below_step HBr.out bz HBr.out.size)
          clear s0 bz
          refine wpAnyH_done (by kernel_rfl) ?_ _
          go_wp2_with fail
          go_ret
          exact ⟨rfl, HBr.out⟩
    · have H0 : Hid (AppRel w4 (negL p.2) 0 (.slice (some ⟨w4.heap.size, 0, none⟩) 0 0) (w4.alloc (.cells #[] 3))) := Lib.hid (app_start w4 _)
      obtain ⟨i0, hi, hz0, hz1, hz2⟩ := info_parts Try_intinfo
      go_wp2_with fail
      go_loopw [5, 6] (fun q i wr => ∃ j : Nat, i = .int .i64 j ∧ j ≤ p.2.length ∧ Hid (AppRel w4 (negL p.2) j q wr)) (fun _ i _ => p.2.length - (intOf i).toNat)
      case atStart => exact ⟨0, rfl, Nat.zero_le _, H0⟩
      case round =>
        obtain ⟨j, rfl, hj, HF⟩ := hrel
        clear H0
        have hbl := HF.out.below
        have HPr := Lib.hid (HP.out.below hbl)
        have FPr := Lib.hid (FP.out.below15 hbl)
        have HBr := Lib.hid (below_step HB.out hbl HB.out.size)
        clear hbl HP FP HB
        by_cases hlt : j < p.2.length
        · obtain ⟨b, off, x, rfl, -, hx, hcx⟩ := HPr.out.2.1.at_ hlt
          have hxs := HS.out.2.2 x (List.mem_of_getElem? hx)
          have hwr : IntKind.i64.wrap (-x) = -x := IntWalk.i64_in _ (by omega)
          have HS2 := Lib.hid (neg_at hx)
          have hown0 := HF.out.1
          unfold IOwn at hown0
          have hown := Lib.hid (World.ownsRow.alloc (w := wr) hown0 (.cells #[.int .i64 (-x)] 3))
          have hsz := HF.out.2.size
          have q0 := FPr.out.cell 0
          have q1 := FPr.out.cell 1
          clear hx hown0 hxs
          go_wp2_with (at_builtin; refine wpList_append_own _ rfl _ _ 24 rfl w4.heap.size 3 i0 (.int .i64 0) 1 8 Try.underlying24 hi hz0 hz1 hz2 rfl (by decide) _ _ _ rfl hown.out ⟨wr.heap.size, 0, none⟩ 1 1 [.int .i64 (-x)] rfl rfl ?c1 one_int ?c3 ?c4 ?c5 ?_)
          case c1 => exact one_new wr _ _
          case c3 => unfold maxLen; simp; omega
          case c4 => simp; omega
          case c5 => simp; omega
          intro v' w' hown' hgrow _
          have HL := Lib.hid (HF.out.step HS2.out (show IOwn w' w4.heap.size v' ((negL p.2).take j ++ [-x]) from by simpa [IOwn] using hown') (grown_after (w := wr) ((Below.refl _ wr).alloc (Nat.le_refl _) _) hgrow))
          clear hown' hgrow hown hi hz0 hz1 hz2 q0 q1
          go_wp2_with fail
          go_roundw
          case rel => exact ⟨j + 1, by go_num, by omega, HL⟩
          case measure => simp [intOf]; omega
        · obtain ⟨o1, -⟩ := HF.out.all (by have := (negL_len p.2).1; omega)
          have O1 := Lib.hid o1.rd
          obtain ⟨An, cn, rfl, -, -, -⟩ := id O1.out
          clear o1 HF hi hz0 hz1 hz2
          have q0 := FPr.out.cell 0
          have q1 := FPr.out.cell 1
          obtain ⟨h1, h2, -⟩ := (plB_iff p).1 HK.out
          have hlen2 : p.1.length ≤ p.2.length ∧ p.2.length ≤ p.1.length := by omega
          clear h1 h2
          by_cases hz : p.1.length ≤ 0
          · have hlz : (p.1.length : Int) - 1 < 0 := by omega
            have hld : decide ((p.1.length : Int) - 1 < 0) = true := decide_eq_true hlz
            go_upto_region 13 with fail
            clear q0 q1
            have HCX : Hid (∀ w', Below wr.heap.size wr w' → w'.cell? ⟨w1.heap.size, 0, none⟩ = some (.slice Av p.1.length cv) ∧ w'.cell? ⟨w1.heap.size, 1, none⟩ = some (.slice Au p.2.length cu)) := Lib.hid (fun w' hb => ⟨(FPr.out.below15 hb).cell 0, (FPr.out.below15 hb).cell 1⟩)
            have s0 : Below wr.heap.size wr wr.drew := (Below.refl _ _).drew
            refine wp_region_held_drew (S := fun w' => Below wr.heap.size wr w') (by kernel_rfl) s0 (fun hHeld => ?_)
            generalize wr.drew = w5 at *
            refine take_in (i := 0) (v := ?_) rfl (by kernel_rfl) (fun _ _ _ h => h) rfl ?_ hHeld ?_
            rotate_left
            · intro w' hSw; go_simp; all_goals with_reducible rfl
            try simp only [Act.put, List.setIfInBounds_toArray, List.set_cons_zero, List.set_cons_succ]
            refine ready_one (i := 1) rfl (by kernel_rfl) (fun K hK => ?_)
            go_simp
            go_at_call 18
            refine (implPlaceOk_any w5 _ _ [] [] (nil_qrd _) (nil_ird _)).mono ?_
            rintro e w6 ⟨rfl, bw6⟩
            rw [pl_nil]
            have sw6 := below_step s0 bw6 s0.size
            replace s0 := sw6
            refine hK.out _ _ s0 (fun hHeld => ?_)
            clear hK K sw6
            try simp only [Act.put, List.setIfInBounds_toArray, List.set_cons_zero, List.set_cons_succ]
            refine take_in (i := 2) (v := ?_) rfl (by kernel_rfl) (fun _ _ _ h => h) rfl ?_ hHeld ?_
            rotate_left
            · intro w' hSw; go_simp; all_goals with_reducible rfl
            try simp only [Act.put, List.setIfInBounds_toArray, List.set_cons_zero, List.set_cons_succ]
            refine take_in (i := 3) (v := ?_) rfl (by kernel_rfl) (fun _ _ _ h => h) rfl ?_ hHeld ?_
            rotate_left
            · intro w' hSw; obtain ⟨q0, q1⟩ := HCX.out w' hSw; go_simp; all_goals with_reducible rfl
            try simp only [Act.put, List.setIfInBounds_toArray, List.set_cons_zero, List.set_cons_succ]
            refine take_in (i := 4) (v := ?_) rfl (by kernel_rfl) (fun _ _ _ h => h) rfl ?_ hHeld ?_
            rotate_left
            · intro w' hSw; obtain ⟨q0, q1⟩ := HCX.out w' hSw; go_simp; all_goals with_reducible rfl
            try simp only [Act.put, List.setIfInBounds_toArray, List.set_cons_zero, List.set_cons_succ]
            refine take_in (i := 5) (v := ?_) rfl (by kernel_rfl) (fun _ _ _ h => h) rfl ?_ hHeld ?_
            rotate_left
            · intro w' hSw; go_simp; all_goals with_reducible rfl
            try simp only [Act.put, List.setIfInBounds_toArray, List.set_cons_zero, List.set_cons_succ]
            refine take_in (i := 6) (v := ?_) rfl (by kernel_rfl) (fun _ _ _ h => h) rfl ?_ hHeld ?_
            rotate_left
            · intro w' hSw; go_simp; all_goals with_reducible rfl
            try simp only [Act.put, List.setIfInBounds_toArray, List.set_cons_zero, List.set_cons_succ]
            refine take_in (i := 8) (v := ?_) rfl (by kernel_rfl) (fun _ _ _ h => h) rfl ?_ hHeld ?_
            rotate_left
            · intro w' hSw; go_simp; all_goals with_reducible rfl
            try simp only [Act.put, List.setIfInBounds_toArray, List.set_cons_zero, List.set_cons_succ]
            refine ready_one (i := 7) rfl (by kernel_rfl) (fun K hK => ?_)
            go_simp
            go_at_call 18
            refine (implPlaceOk_any w6 _ _ p.1 (negL p.2) (HPr.out.below s0).1.1 (O1.out.keep (SameAt.of_below s0))).mono ?_
            rintro e w7 ⟨rfl, bw7⟩
            rw [plB_negL p, HK.out]
            have sw7 := below_step s0 bw7 s0.size
            replace s0 := sw7
            refine hK.out _ _ s0 (fun hHeld => ?_)
            clear hK K sw7
            try simp only [Act.put, List.setIfInBounds_toArray, List.set_cons_zero, List.set_cons_succ]
            refine take_in (i := 9) (v := ?_) rfl (by kernel_rfl) (fun _ _ _ h => h) rfl ?_ hHeld ?_
            rotate_left
            · intro w' hSw; go_simp; all_goals with_reducible rfl
            try simp only [Act.put, List.setIfInBounds_toArray, List.set_cons_zero, List.set_cons_succ]
            refine take_in (i := 10) (v := ?_) rfl (by kernel_rfl) (fun _ _ _ h => h) rfl ?_ hHeld ?_
            rotate_left
            · intro w' hSw; go_simp; all_goals with_reducible rfl
            try simp only [Act.put, List.setIfInBounds_toArray, List.set_cons_zero, List.set_cons_succ]
            refine take_in (i := 11) (v := ?_) rfl (by kernel_rfl) (fun _ _ _ h => h) rfl ?_ hHeld ?_
            rotate_left
            · intro w' hSw; go_simp; all_goals with_reducible rfl
            try simp only [Act.put, List.setIfInBounds_toArray, List.set_cons_zero, List.set_cons_succ]
            refine take_in (i := 12) (v := ?_) rfl (by kernel_rfl) (fun _ _ _ h => h) rfl ?_ hHeld ?_
            rotate_left
            · intro w' hSw; go_simp; all_goals with_reducible rfl
            try simp only [Act.put, List.setIfInBounds_toArray, List.set_cons_zero, List.set_cons_succ]
            refine take_in (i := 13) (v := ?_) rfl (by kernel_rfl) (fun _ _ _ h => h) rfl ?_ hHeld ?_
            rotate_left
            · intro w' hSw; go_simp; all_goals with_reducible rfl
            try simp only [Act.put, List.setIfInBounds_toArray, List.set_cons_zero, List.set_cons_succ]
            refine take_in (i := 14) (v := ?_) rfl (by kernel_rfl) (fun _ _ _ h => h) rfl ?_ hHeld ?_
            rotate_left
            · intro w' hSw; go_simp; all_goals with_reducible rfl
            try simp only [Act.put, List.setIfInBounds_toArray, List.set_cons_zero, List.set_cons_succ]
            refine take_in (i := 15) (v := ?_) rfl (by kernel_rfl) (fun _ _ _ h => h) rfl ?_ hHeld ?_
            rotate_left
            · intro w' hSw; go_simp; all_goals with_reducible rfl
            try simp only [Act.put, List.setIfInBounds_toArray, List.set_cons_zero, List.set_cons_succ]
            refine take_in (i := 16) (v := ?_) rfl (by kernel_rfl) (fun _ _ _ h => h) rfl ?_ hHeld ?_
            rotate_left
            · intro w' hSw; go_simp; all_goals with_reducible rfl
            try simp only [Act.put, List.setIfInBounds_toArray, List.set_cons_zero, List.set_cons_succ]
            refine take_in (i := 17) (v := ?_) rfl (by kernel_rfl) (fun _ _ _ h => h) rfl ?_ hHeld ?_
            rotate_left
            · intro w' hSw; go_simp; all_goals with_reducible rfl
            try simp only [Act.put, List.setIfInBounds_toArray, List.set_cons_zero, List.set_cons_succ]
            refine take_in (i := 18) (v := ?_) rfl (by kernel_rfl) (fun _ _ _ h => h) rfl ?_ hHeld ?_
            rotate_left
            · intro w' hSw; go_simp; all_goals with_reducible rfl
            try simp only [Act.put, List.setIfInBounds_toArray, List.set_cons_zero, List.set_cons_succ]
            refine take_out (i := 19) rfl (by kernel_rfl) (fun _ _ _ h => h) rfl hHeld ?_
            try simp only [Act.put, List.setIfInBounds_toArray, List.set_cons_zero, List.set_cons_succ]
            refine take_out (i := 20) rfl (by kernel_rfl) (fun _ _ _ h => h) rfl hHeld ?_
            try simp only [Act.put, List.setIfInBounds_toArray, List.set_cons_zero, List.set_cons_succ]
            refine take_out (i := 21) rfl (by kernel_rfl) (fun _ _ _ h => h) rfl hHeld ?_
            try simp only [Act.put, List.setIfInBounds_toArray, List.set_cons_zero, List.set_cons_succ]
            refine take_out (i := 22) rfl (by kernel_rfl) (fun _ _ _ h => h) rfl hHeld ?_
            try simp only [Act.put, List.setIfInBounds_toArray, List.set_cons_zero, List.set_cons_succ]
            refine take_out (i := 23) rfl (by kernel_rfl) (fun _ _ _ h => h) rfl hHeld ?_
            try simp only [Act.put, List.setIfInBounds_toArray, List.set_cons_zero, List.set_cons_succ]
            refine take_out (i := 24) rfl (by kernel_rfl) (fun _ _ _ h => h) rfl hHeld ?_
            try simp only [Act.put, List.setIfInBounds_toArray, List.set_cons_zero, List.set_cons_succ]
            refine take_out (i := 25) rfl (by kernel_rfl) (fun _ _ _ h => h) rfl hHeld ?_
            try simp only [Act.put, List.setIfInBounds_toArray, List.set_cons_zero, List.set_cons_succ]
            refine take_out (i := 26) rfl (by kernel_rfl) (fun _ _ _ h => h) rfl hHeld ?_
            try simp only [Act.put, List.setIfInBounds_toArray, List.set_cons_zero, List.set_cons_succ]
            refine take_out (i := 27) rfl (by kernel_rfl) (fun _ _ _ h => h) rfl hHeld ?_
            try simp only [Act.put, List.setIfInBounds_toArray, List.set_cons_zero, List.set_cons_succ]
            refine take_out (i := 28) rfl (by kernel_rfl) (fun _ _ _ h => h) rfl hHeld ?_
            try simp only [Act.put, List.setIfInBounds_toArray, List.set_cons_zero, List.set_cons_succ]
            refine take_in (i := 29) (v := ?_) rfl (by kernel_rfl) (fun _ _ _ h => h) rfl ?_ hHeld ?_
            rotate_left
            · intro w' hSw; go_simp; all_goals with_reducible rfl
            try simp only [Act.put, List.setIfInBounds_toArray, List.set_cons_zero, List.set_cons_succ]
            refine take_in (i := 30) (v := ?_) rfl (by kernel_rfl) (fun _ _ _ h => h) rfl ?_ hHeld ?_
            rotate_left
            · intro w' hSw; go_simp; all_goals with_reducible rfl
            try simp only [Act.put, List.setIfInBounds_toArray, List.set_cons_zero, List.set_cons_succ]
            refine take_in (i := 31) (v := ?_) rfl (by kernel_rfl) (fun _ _ _ h => h) rfl ?_ hHeld ?_
            rotate_left
            · intro w' hSw; go_simp; all_goals with_reducible rfl
            try simp only [Act.put, List.setIfInBounds_toArray, List.set_cons_zero, List.set_cons_succ]
            refine ready_one (i := 32) rfl (by kernel_rfl) (fun K hK => ?_)
            go_simp
            go_at_call 12
            refine (alive_any _).mono ?_
            rintro e wz ⟨rfl, rfl⟩
            refine hK.out _ _ s0 (fun hHeld => ?_)
            clear hK K
            try simp only [Act.put, List.setIfInBounds_toArray, List.set_cons_zero, List.set_cons_succ]
            refine take_in (i := 33) (v := ?_) rfl (by kernel_rfl) (fun _ _ _ h => h) rfl ?_ hHeld ?_
            rotate_left
            · intro w' hSw; go_simp; all_goals with_reducible rfl
            try simp only [Act.put, List.setIfInBounds_toArray, List.set_cons_zero, List.set_cons_succ]
            refine take_in (i := 34) (v := ?_) rfl (by kernel_rfl) (fun _ _ _ h => h) rfl ?_ hHeld ?_
            rotate_left
            · intro w' hSw; go_simp; all_goals with_reducible rfl
            try simp only [Act.put, List.setIfInBounds_toArray, List.set_cons_zero, List.set_cons_succ]
            clear HCX
            have bz := s0
            have zw7 := bz.size
            replace HPr := Lib.hid (HPr.out.below bz)
            replace FPr := Lib.hid (FPr.out.below15 bz)
            replace HBr := Lib.hid (below_step HBr.out bz HBr.out.size)
            clear s0 bz
            refine wpAnyH_done (by kernel_rfl) ?_ _
            go_wp2_with fail
            go_ret
            exact ⟨rfl, HBr.out⟩
          · obtain ⟨n1, hn1⟩ : ∃ n1, p.1.length = n1 + 1 := ⟨p.1.length - 1, by omega⟩
            have hkq : (p.1.length : Int) - 1 = (n1 : Int) := by omega
            have hk0 : n1 < p.1.length := by omega
            have hk00 : (0 : Int) ≤ (n1 : Int) := by omega
            have hkn : ¬ ((n1 : Int) < 0) := by omega
            have hkd : decide ((n1 : Int) < 0) = false := decide_eq_false hkn
            have hk1 : (n1 : Int) < (p.1.length : Int) := by omega
            have hk2 : (n1 : Int) ≤ (cv : Int) := by omega
            have hk3 : (n1 : Int) < (p.2.length : Int) := by omega
            have hk4 : (n1 : Int) ≤ (cu : Int) := by omega
            have hk5 : n1 < p.2.length := by omega
            clear hn1
            obtain ⟨b3, off3, -, rfl, -, -, -, -⟩ := QRd.at_ HPr.out.1.1 hk0
            obtain ⟨b4, off4, -, rfl, -, -, -⟩ := HPr.out.2.1.at_ hk5
            have LESS := Lib.hid (plB_less HK.out n1)
            go_upto_region 13 with fail
            clear q0 q1
            have HCX : Hid (∀ w', Below wr.heap.size wr w' → w'.cell? ⟨w1.heap.size, 0, none⟩ = some (.slice (some ⟨b3, off3, none⟩) p.1.length cv) ∧ w'.cell? ⟨w1.heap.size, 1, none⟩ = some (.slice (some ⟨b4, off4, none⟩) p.2.length cu)) := Lib.hid (fun w' hb => ⟨(FPr.out.below15 hb).cell 0, (FPr.out.below15 hb).cell 1⟩)
            have s0 : Below wr.heap.size wr wr.drew := (Below.refl _ _).drew
            refine wp_region_held_drew (S := fun w' => Below wr.heap.size wr w') (by kernel_rfl) s0 (fun hHeld => ?_)
            generalize wr.drew = w5 at *
            refine take_in (i := 0) (v := ?_) rfl (by kernel_rfl) (fun _ _ _ h => h) rfl ?_ hHeld ?_
            rotate_left
            · intro w' hSw; go_simp; all_goals with_reducible rfl
            try simp only [Act.put, List.setIfInBounds_toArray, List.set_cons_zero, List.set_cons_succ]
            refine ready_one (i := 1) rfl (by kernel_rfl) (fun K hK => ?_)
            go_simp
            go_at_call 18
            refine (implPlaceOk_any w5 _ _ [] [] (nil_qrd _) (nil_ird _)).mono ?_
            rintro e w6 ⟨rfl, bw6⟩
            rw [pl_nil]
            have sw6 := below_step s0 bw6 s0.size
            replace s0 := sw6
            refine hK.out _ _ s0 (fun hHeld => ?_)
            clear hK K sw6
            try simp only [Act.put, List.setIfInBounds_toArray, List.set_cons_zero, List.set_cons_succ]
            refine take_in (i := 2) (v := ?_) rfl (by kernel_rfl) (fun _ _ _ h => h) rfl ?_ hHeld ?_
            rotate_left
            · intro w' hSw; go_simp; all_goals with_reducible rfl
            try simp only [Act.put, List.setIfInBounds_toArray, List.set_cons_zero, List.set_cons_succ]
            refine take_in (i := 3) (v := ?_) rfl (by kernel_rfl) (fun _ _ _ h => h) rfl ?_ hHeld ?_
            rotate_left
            · intro w' hSw; obtain ⟨q0, q1⟩ := HCX.out w' hSw; go_simp; all_goals with_reducible rfl
            try simp only [Act.put, List.setIfInBounds_toArray, List.set_cons_zero, List.set_cons_succ]
            refine take_in (i := 4) (v := ?_) rfl (by kernel_rfl) (fun _ _ _ h => h) rfl ?_ hHeld ?_
            rotate_left
            · intro w' hSw; obtain ⟨q0, q1⟩ := HCX.out w' hSw; go_simp; all_goals with_reducible rfl
            try simp only [Act.put, List.setIfInBounds_toArray, List.set_cons_zero, List.set_cons_succ]
            refine take_in (i := 5) (v := ?_) rfl (by kernel_rfl) (fun _ _ _ h => h) rfl ?_ hHeld ?_
            rotate_left
            · intro w' hSw; go_simp; all_goals with_reducible rfl
            try simp only [Act.put, List.setIfInBounds_toArray, List.set_cons_zero, List.set_cons_succ]
            refine take_in (i := 6) (v := ?_) rfl (by kernel_rfl) (fun _ _ _ h => h) rfl ?_ hHeld ?_
            rotate_left
            · intro w' hSw; go_simp; all_goals with_reducible rfl
            try simp only [Act.put, List.setIfInBounds_toArray, List.set_cons_zero, List.set_cons_succ]
            refine take_in (i := 8) (v := ?_) rfl (by kernel_rfl) (fun _ _ _ h => h) rfl ?_ hHeld ?_
            rotate_left
            · intro w' hSw; go_simp; all_goals with_reducible rfl
            try simp only [Act.put, List.setIfInBounds_toArray, List.set_cons_zero, List.set_cons_succ]
            refine ready_one (i := 7) rfl (by kernel_rfl) (fun K hK => ?_)
            go_simp
            go_at_call 18
            refine (implPlaceOk_any w6 _ _ p.1 (negL p.2) (HPr.out.below s0).1.1 (O1.out.keep (SameAt.of_below s0))).mono ?_
            rintro e w7 ⟨rfl, bw7⟩
            rw [plB_negL p, HK.out]
            have sw7 := below_step s0 bw7 s0.size
            replace s0 := sw7
            refine hK.out _ _ s0 (fun hHeld => ?_)
            clear hK K sw7
            try simp only [Act.put, List.setIfInBounds_toArray, List.set_cons_zero, List.set_cons_succ]
            refine take_in (i := 9) (v := ?_) rfl (by kernel_rfl) (fun _ _ _ h => h) rfl ?_ hHeld ?_
            rotate_left
            · intro w' hSw; go_simp; all_goals with_reducible rfl
            try simp only [Act.put, List.setIfInBounds_toArray, List.set_cons_zero, List.set_cons_succ]
            refine take_in (i := 10) (v := ?_) rfl (by kernel_rfl) (fun _ _ _ h => h) rfl ?_ hHeld ?_
            rotate_left
            · intro w' hSw; go_simp; all_goals with_reducible rfl
            try simp only [Act.put, List.setIfInBounds_toArray, List.set_cons_zero, List.set_cons_succ]
            refine take_in (i := 11) (v := ?_) rfl (by kernel_rfl) (fun _ _ _ h => h) rfl ?_ hHeld ?_
            rotate_left
            · intro w' hSw; go_simp; all_goals with_reducible rfl
            try simp only [Act.put, List.setIfInBounds_toArray, List.set_cons_zero, List.set_cons_succ]
            refine take_in (i := 12) (v := ?_) rfl (by kernel_rfl) (fun _ _ _ h => h) rfl ?_ hHeld ?_
            rotate_left
            · intro w' hSw; go_simp; all_goals with_reducible rfl
            try simp only [Act.put, List.setIfInBounds_toArray, List.set_cons_zero, List.set_cons_succ]
            refine take_in (i := 13) (v := ?_) rfl (by kernel_rfl) (fun _ _ _ h => h) rfl ?_ hHeld ?_
            rotate_left
            · intro w' hSw; go_simp; all_goals with_reducible rfl
            try simp only [Act.put, List.setIfInBounds_toArray, List.set_cons_zero, List.set_cons_succ]
            refine take_in (i := 14) (v := ?_) rfl (by kernel_rfl) (fun _ _ _ h => h) rfl ?_ hHeld ?_
            rotate_left
            · intro w' hSw; go_simp; all_goals with_reducible rfl
            try simp only [Act.put, List.setIfInBounds_toArray, List.set_cons_zero, List.set_cons_succ]
            refine take_in (i := 15) (v := ?_) rfl (by kernel_rfl) (fun _ _ _ h => h) rfl ?_ hHeld ?_
            rotate_left
            · intro w' hSw; go_simp; all_goals with_reducible rfl
            try simp only [Act.put, List.setIfInBounds_toArray, List.set_cons_zero, List.set_cons_succ]
            refine take_in (i := 16) (v := ?_) rfl (by kernel_rfl) (fun _ _ _ h => h) rfl ?_ hHeld ?_
            rotate_left
            · intro w' hSw; go_simp; all_goals with_reducible rfl
            try simp only [Act.put, List.setIfInBounds_toArray, List.set_cons_zero, List.set_cons_succ]
            refine take_in (i := 17) (v := ?_) rfl (by kernel_rfl) (fun _ _ _ h => h) rfl ?_ hHeld ?_
            rotate_left
            · intro w' hSw; go_simp; all_goals with_reducible rfl
            try simp only [Act.put, List.setIfInBounds_toArray, List.set_cons_zero, List.set_cons_succ]
            refine take_in (i := 18) (v := ?_) rfl (by kernel_rfl) (fun _ _ _ h => h) rfl ?_ hHeld ?_
            rotate_left
            · intro w' hSw; go_simp; all_goals with_reducible rfl
            try simp only [Act.put, List.setIfInBounds_toArray, List.set_cons_zero, List.set_cons_succ]
            refine take_in (i := 19) (v := ?_) rfl (by kernel_rfl) (fun _ _ _ h => h) rfl ?_ hHeld ?_
            rotate_left
            · intro w' hSw; obtain ⟨q0, q1⟩ := HCX.out w' hSw; go_simp; all_goals with_reducible rfl
            try simp only [Act.put, List.setIfInBounds_toArray, List.set_cons_zero, List.set_cons_succ]
            refine take_in (i := 20) (v := ?_) rfl (by kernel_rfl) (fun _ _ _ h => h) rfl ?_ hHeld ?_
            rotate_left
            · intro w' hSw; obtain ⟨q0, q1⟩ := HCX.out w' hSw; go_simp; all_goals with_reducible rfl
            try simp only [Act.put, List.setIfInBounds_toArray, List.set_cons_zero, List.set_cons_succ]
            refine take_in (i := 21) (v := ?_) rfl (by kernel_rfl) (fun _ _ _ h => h) rfl ?_ hHeld ?_
            rotate_left
            · intro w' hSw; go_simp; all_goals with_reducible rfl
            try simp only [Act.put, List.setIfInBounds_toArray, List.set_cons_zero, List.set_cons_succ]
            refine take_in (i := 22) (v := ?_) rfl (by kernel_rfl) (fun _ _ _ h => h) rfl ?_ hHeld ?_
            rotate_left
            · intro w' hSw; go_simp; all_goals with_reducible rfl
            try simp only [Act.put, List.setIfInBounds_toArray, List.set_cons_zero, List.set_cons_succ]
            refine take_in (i := 23) (v := ?_) rfl (by kernel_rfl) (fun _ _ _ h => h) rfl ?_ hHeld ?_
            rotate_left
            · intro w' hSw; obtain ⟨q0, q1⟩ := HCX.out w' hSw; go_simp; all_goals with_reducible rfl
            try simp only [Act.put, List.setIfInBounds_toArray, List.set_cons_zero, List.set_cons_succ]
            refine take_in (i := 24) (v := ?_) rfl (by kernel_rfl) (fun _ _ _ h => h) rfl ?_ hHeld ?_
            rotate_left
            · intro w' hSw; obtain ⟨q0, q1⟩ := HCX.out w' hSw; go_simp; all_goals with_reducible rfl
            try simp only [Act.put, List.setIfInBounds_toArray, List.set_cons_zero, List.set_cons_succ]
            refine take_in (i := 25) (v := ?_) rfl (by kernel_rfl) (fun _ _ _ h => h) rfl ?_ hHeld ?_
            rotate_left
            · intro w' hSw; go_simp; all_goals with_reducible rfl
            try simp only [Act.put, List.setIfInBounds_toArray, List.set_cons_zero, List.set_cons_succ]
            refine take_in (i := 26) (v := ?_) rfl (by kernel_rfl) (fun _ _ _ h => h) rfl ?_ hHeld ?_
            rotate_left
            · intro w' hSw; go_simp; all_goals with_reducible rfl
            try simp only [Act.put, List.setIfInBounds_toArray, List.set_cons_zero, List.set_cons_succ]
            refine take_in (i := 27) (v := ?_) rfl (by kernel_rfl) (fun _ _ _ h => h) rfl ?_ hHeld ?_
            rotate_left
            · intro w' hSw; go_simp; all_goals with_reducible rfl
            try simp only [Act.put, List.setIfInBounds_toArray, List.set_cons_zero, List.set_cons_succ]
            refine ready_one (i := 28) rfl (by kernel_rfl) (fun K hK => ?_)
            go_simp
            go_at_call 18
            refine (implPlaceOk_any w7 _ _ _ _ (GRd.take15 (HPr.out.below s0).1.1 (by omega)) (IRd.take15 (HPr.out.below s0).2.1 (by omega))).mono ?_
            rintro e w8 ⟨rfl, bw8⟩
            rw [LESS.out]
            have sw8 := below_step s0 bw8 s0.size
            replace s0 := sw8
            refine hK.out _ _ s0 (fun hHeld => ?_)
            clear hK K sw8
            try simp only [Act.put, List.setIfInBounds_toArray, List.set_cons_zero, List.set_cons_succ]
            refine take_in (i := 29) (v := ?_) rfl (by kernel_rfl) (fun _ _ _ h => h) rfl ?_ hHeld ?_
            rotate_left
            · intro w' hSw; go_simp; all_goals with_reducible rfl
            try simp only [Act.put, List.setIfInBounds_toArray, List.set_cons_zero, List.set_cons_succ]
            refine take_in (i := 30) (v := ?_) rfl (by kernel_rfl) (fun _ _ _ h => h) rfl ?_ hHeld ?_
            rotate_left
            · intro w' hSw; go_simp; all_goals with_reducible rfl
            try simp only [Act.put, List.setIfInBounds_toArray, List.set_cons_zero, List.set_cons_succ]
            refine take_in (i := 31) (v := ?_) rfl (by kernel_rfl) (fun _ _ _ h => h) rfl ?_ hHeld ?_
            rotate_left
            · intro w' hSw; go_simp; all_goals with_reducible rfl
            try simp only [Act.put, List.setIfInBounds_toArray, List.set_cons_zero, List.set_cons_succ]
            refine ready_one (i := 32) rfl (by kernel_rfl) (fun K hK => ?_)
            go_simp
            go_at_call 12
            refine (alive_any _).mono ?_
            rintro e wz ⟨rfl, rfl⟩
            refine hK.out _ _ s0 (fun hHeld => ?_)
            clear hK K
            try simp only [Act.put, List.setIfInBounds_toArray, List.set_cons_zero, List.set_cons_succ]
            refine take_in (i := 33) (v := ?_) rfl (by kernel_rfl) (fun _ _ _ h => h) rfl ?_ hHeld ?_
            rotate_left
            · intro w' hSw; go_simp; all_goals with_reducible rfl
            try simp only [Act.put, List.setIfInBounds_toArray, List.set_cons_zero, List.set_cons_succ]
            refine take_in (i := 34) (v := ?_) rfl (by kernel_rfl) (fun _ _ _ h => h) rfl ?_ hHeld ?_
            rotate_left
            · intro w' hSw; go_simp; all_goals with_reducible rfl
            try simp only [Act.put, List.setIfInBounds_toArray, List.set_cons_zero, List.set_cons_succ]
            clear HCX
            have bz := s0
            have zw8 := bz.size
            replace HPr := Lib.hid (HPr.out.below bz)
            replace FPr := Lib.hid (FPr.out.below15 bz)
            replace HBr := Lib.hid (below_step HBr.out bz HBr.out.size)
            clear s0 bz
            refine wpAnyH_done (by kernel_rfl) ?_ _
            go_wp2_with fail
            go_ret
            exact ⟨rfl, HBr.out⟩

end Go.Proofs.Ytebebcomhdjihaa
