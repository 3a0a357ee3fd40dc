/- The walk of the law of ReducedWeights. Conditions: rows of bytes that came in. (gen_fh.py) -/
import Derived.Test.YtbjmhbkpeglpkaaHk
import Derived.Test.YtbjmhbkpeglpkaaRh
namespace Go.Proofs.Ytbjmhbkpeglpkaa
open Go.RowKit
set_option linter.unusedVariables false

theorem App12.drew {w wr : World} {zs : List Int} {k : Nat} {p : Value} (h : App12 w zs k p wr) : App12 w zs k p wr.drew := ⟨h.1.keep (Below.refl _ _).drew, h.2⟩

theorem mul_big12 {x y : Int} (hx : 0 ≤ x ∧ x ≤ 1000000) (hy : 0 ≤ y ∧ y ≤ 1000000) : 0 ≤ x * y ∧ x * y ≤ 1000000 * 1000000 :=
  ⟨Int.mul_nonneg hx.1 hy.1, Int.mul_le_mul hx.2 hy.2 hy.1 (by omega)⟩

theorem ird_form12 {w : World} {v : Value} {xs : List Int} {n : Nat} (h : IRd w v xs) (hn : xs.length = n) : ∃ A c, v = .slice A n c := by
  obtain ⟨A, c, e, -⟩ := h
  exact ⟨A, c, by rw [e, hn]⟩

theorem red_rows {xs : List Int} (h : wgtB xs = true) : redR xs = redL xs ∧ redR (redL xs) = redL xs ∧ (wgtB (xs.map (fun x => 2 * x)) = true → redR (xs.map (fun x => 2 * x)) = redL xs) := by
  refine ⟨by rw [redR, if_pos h], by rw [redR, if_pos (wgt_red h), red_again (wgt_of h)], fun h2 => by rw [redR, if_pos h2, red_twice (wgt_of h)]⟩

set_option maxRecDepth 100000 in
set_option maxHeartbeats 8000000 in
theorem FnReducedWeights_walk (a0 : Option Addr) (len0 cap0 : Nat) (z0 : List Int) (w : World) (w0 : IsRowC .u8 w a0 len0 cap0 z0) :
    Calls Try.prog 4 #[.slice a0 len0 cap0] w fun e w' => e = .returned (.bool true) ∧ Below w.heap.size w w' := by
  by_cases hlen : 1048576 < len0
  · clear w0
    go_enter Try.func4, Try.ntmps4
    go_wp2
    go_ret
    exact ⟨rfl, Below.refl _ _⟩
  · have hlen' : decide (1048576 < len0) = false := by simpa using hlen
    go_enter Try.func4, Try.ntmps4
    go_wp2_with fail
    refine (drawReducedWeights_any _ _ _ _ _ w0).mono ?_
    rintro e w1 ⟨v, xs, rfl, ov, hl4, -, B1⟩
    have HB1 := Lib.hid B1
    have ord := ov.rd
    obtain ⟨A, c, rfl, hl, hmx, -⟩ := id ord
    have HV : Hid (∀ wr, Below w1.heap.size w1 wr → IRd wr (.slice A xs.length c) xs) := Lib.hid (fun wr hb => ord.keep (SameAt.of_below hb))
    have C1 := Lib.hid (Below.refl w1.heap.size w1)
    clear ov B1 w0 ord
    rcases Bool.eq_false_or_eq_true (wgtB xs) with h | h
    · obtain ⟨r1, r2, r3⟩ := red_rows h
      obtain ⟨h6, h7, -⟩ := (wgtB_iff xs).1 h
      have HBX := Lib.hid h6
      have HBY := Lib.hid ((wgtB_iff _).1 (wgt_red h)).1
      have HAL := Lib.hid (alike_red (wgt_of h))
      have HYL := Lib.hid (red_len xs)
      obtain ⟨y, hy⟩ : ∃ y, redL xs = y := ⟨_, rfl⟩
      have hpos : (0 : Int) < (xs.length : Int) := by omega
      have hx0 : ((xs.length : Int) == 0) = false := by
        have : ¬ (xs.length : Int) = 0 := by omega
        simpa using this
      rw [hy] at r1 r2 r3 HBY HAL HYL
      have HRX := Lib.hid r1
      have HRY := Lib.hid r2
      have HRT := Lib.hid r3
      clear h r1 r2 r3 h6 hy
      go_wp2_with fail
      refine (implReducedWeights_any w1 _ xs (HV.out w1 C1.out)).mono ?_
      rintro e w2 ⟨vx, rfl, ovx, b2⟩
      rw [HRX.out] at ovx
      have C2 := Lib.hid (below_step C1.out b2 C1.out.size)
      have S2 := Lib.hid b2
      obtain ⟨Avx, cvx, rfl⟩ := ird_form12 ovx.rd HYL.out
      have Hvx := Lib.hid (fun wr (hb : Below w2.heap.size w2 wr) => ovx.rd.keep (SameAt.of_below hb))
      clear ovx b2
      go_wp2_with fail
      refine (specReducedWeights_any w2 _ xs (HV.out w2 C2.out)).mono ?_
      rintro e w3 ⟨vs, rfl, ovs, b3⟩
      rw [HRX.out] at ovs
      have C3 := Lib.hid (below_step C2.out b3 C2.out.size)
      have S3 := Lib.hid b3
      obtain ⟨Avs, cvs, rfl⟩ := ird_form12 ovs.rd HYL.out
      have Hvs := Lib.hid (fun wr (hb : Below w3.heap.size w3 wr) => ovs.rd.keep (SameAt.of_below hb))
      clear ovs b3
      go_wp2_with fail
      refine (sameInts_any w3 _ _ _ _ (Hvx.out w3 S3.out) (Hvs.out w3 (Below.refl _ _))).mono ?_
      rintro e w4 ⟨q4, rfl, hw4⟩
      rw [decide_self]
      have S4 : Hid (Below w3.heap.size w3 w4) := Lib.hid (by rw [hw4]; exact below_drewN (Below.refl _ _) q4)
      have C4 := Lib.hid (below_step C3.out S4.out C3.out.size)
      clear hw4
      have D4 := Lib.hid (below_step S3.out S4.out S3.out.size)
      clear S2 S3 S4 Hvs
      have H0 : Hid (App12 w4 (xs.map (fun x => 2 * x)) 0 (.slice (some ⟨w4.heap.size, 0, none⟩) 0 0) (w4.alloc (.cells #[] 3))) := Lib.hid (app12_start w4 _)
      go_wp2_with fail
      go_loopw [5, 6] (fun p i wr => ∃ k : Nat, i = .int .i64 (k : Int) ∧ k ≤ xs.length ∧ Hid (App12 w4 (xs.map (fun x => 2 * x)) k p wr)) (fun _ i _ => xs.length - (intOf i).toNat)
      case atStart => exact ⟨0, rfl, Nat.zero_le _, H0⟩
      case round =>
        obtain ⟨k, rfl, hk, HF⟩ := hrel
        obtain ⟨g0, c0, rfl⟩ := HF.out.2
        clear H0
        by_cases hlt : k < xs.length
        · have hlt' : (k : Int) < (xs.length : Int) := by omega
          have hk0 : (0 : Int) ≤ (k : Int) := by omega
          have hky : k < y.length := by have := HYL.out; omega
          go_wp2_with fail
          go_loopw [7] (fun i wq => ∃ j : Nat, i = .int .i64 (j : Int) ∧ j ≤ xs.length ∧ Hid (App12 w4 (xs.map (fun x => 2 * x)) k (.slice (some ⟨g0, 0, none⟩) k c0) wq)) (fun i _ => xs.length - (intOf i).toNat)
          case atStart => exact ⟨0, rfl, Nat.zero_le _, HF⟩
          case round =>
            clear HF
            obtain ⟨j, rfl, hj, HJ⟩ := hrel
            have K4 := Lib.hid (below_step C4.out HJ.out.1.2 C4.out.size)
            have L4 := Lib.hid (below_step D4.out HJ.out.1.2 D4.out.size)
            by_cases hjl : j < xs.length
            · have hjl' : (j : Int) < (xs.length : Int) := by omega
              have hj0 : (0 : Int) ≤ (j : Int) := by omega
              have hjy : j < y.length := by have := HYL.out; omega
              obtain ⟨G1, o1, yk, rfl, -, hyk, hc1⟩ := (Hvx.out wr L4.out).at_ hlt
              obtain ⟨G2, o2, mj, rfl, -, hmj, hc2⟩ := (HV.out wr K4.out).at_ hjl
              obtain ⟨yj, hyj⟩ : ∃ x, y[j]? = some x := ⟨_, List.getElem?_eq_getElem hjy⟩
              obtain ⟨mk, hmk⟩ : ∃ x, xs[k]? = some x := ⟨_, List.getElem?_eq_getElem hlt⟩
              have hc3 := IRd.cellk (Hvx.out wr L4.out) hyj
              have hc4 := IRd.cellk (HV.out wr K4.out) hmk
              have t1 := mul_big12 (HBY.out yk (List.mem_of_getElem? hyk)) (HBX.out mj (List.mem_of_getElem? hmj))
              have t2 := mul_big12 (HBY.out yj (List.mem_of_getElem? hyj)) (HBX.out mk (List.mem_of_getElem? hmk))
              have hw1 : IntKind.i64.wrap (yk * mj) = yk * mj := IntWalk.i64_in _ (by omega)
              have hw2 : IntKind.i64.wrap (yj * mk) = yj * mk := IntWalk.i64_in _ (by omega)
              have hne : (yk * mj != yj * mk) = false := by rw [HAL.out k j yk yj mk mj hyk hyj hmk hmj]; simp
              clear hyk hmj hyj hmk t1 t2
              go_wp2_with fail
              refine wp_region_held_drew (S := fun w' => w'.cell? ⟨G1, o1 + k, none⟩ = some (.int .i64 yk) ∧ w'.cell? ⟨G2, o2 + j, none⟩ = some (.int .i64 mj) ∧ w'.cell? ⟨G1, o1 + j, none⟩ = some (.int .i64 yj) ∧ w'.cell? ⟨G2, o2 + k, none⟩ = some (.int .i64 mk)) (by kernel_rfl) (⟨hc1, hc2, hc3, hc4⟩) (fun hHeld => ?_)
              refine take_in (i := 0) (v := ?_) rfl (by kernel_rfl) (fun _ _ _ h => h) rfl ?_ hHeld ?_
              rotate_left
              · intro w hSw; go_simp; all_goals with_reducible rfl
              try simp only [Act.put, List.setIfInBounds_toArray, List.set_cons_zero, List.set_cons_succ]
              refine take_in (i := 1) (v := ?_) rfl (by kernel_rfl) (fun _ _ _ h => h) rfl ?_ hHeld ?_
              rotate_left
              · intro w hSw; go_simp; all_goals with_reducible rfl
              try simp only [Act.put, List.setIfInBounds_toArray, List.set_cons_zero, List.set_cons_succ]
              refine take_in (i := 2) (v := ?_) rfl (by kernel_rfl) (fun _ _ _ h => h) rfl ?_ hHeld ?_
              rotate_left
              · intro w hSw; go_simp; all_goals with_reducible rfl
              try simp only [Act.put, List.setIfInBounds_toArray, List.set_cons_zero, List.set_cons_succ]
              refine take_in (i := 3) (v := ?_) rfl (by kernel_rfl) (fun _ _ _ h => h) rfl ?_ hHeld ?_
              rotate_left
              · intro w hSw; obtain ⟨h1, h2, h3, h4⟩ := hSw; go_simp; all_goals with_reducible rfl
              try simp only [Act.put, List.setIfInBounds_toArray, List.set_cons_zero, List.set_cons_succ]
              refine take_in (i := 4) (v := ?_) rfl (by kernel_rfl) (fun _ _ _ h => h) rfl ?_ hHeld ?_
              rotate_left
              · intro w hSw; go_simp; all_goals with_reducible rfl
              try simp only [Act.put, List.setIfInBounds_toArray, List.set_cons_zero, List.set_cons_succ]
              refine take_in (i := 5) (v := ?_) rfl (by kernel_rfl) (fun _ _ _ h => h) rfl ?_ hHeld ?_
              rotate_left
              · intro w hSw; go_simp; all_goals with_reducible rfl
              try simp only [Act.put, List.setIfInBounds_toArray, List.set_cons_zero, List.set_cons_succ]
              refine take_in (i := 6) (v := ?_) rfl (by kernel_rfl) (fun _ _ _ h => h) rfl ?_ hHeld ?_
              rotate_left
              · intro w hSw; go_simp; all_goals with_reducible rfl
              try simp only [Act.put, List.setIfInBounds_toArray, List.set_cons_zero, List.set_cons_succ]
              refine take_in (i := 7) (v := ?_) rfl (by kernel_rfl) (fun _ _ _ h => h) rfl ?_ hHeld ?_
              rotate_left
              · intro w hSw; obtain ⟨h1, h2, h3, h4⟩ := hSw; go_simp; all_goals with_reducible rfl
              try simp only [Act.put, List.setIfInBounds_toArray, List.set_cons_zero, List.set_cons_succ]
              refine take_in (i := 8) (v := ?_) rfl (by kernel_rfl) (fun _ _ _ h => h) rfl ?_ hHeld ?_
              rotate_left
              · intro w hSw; go_simp; all_goals with_reducible rfl
              try simp only [Act.put, List.setIfInBounds_toArray, List.set_cons_zero, List.set_cons_succ]
              refine take_in (i := 9) (v := ?_) rfl (by kernel_rfl) (fun _ _ _ h => h) rfl ?_ hHeld ?_
              rotate_left
              · intro w hSw; go_simp; all_goals with_reducible rfl
              try simp only [Act.put, List.setIfInBounds_toArray, List.set_cons_zero, List.set_cons_succ]
              refine take_in (i := 10) (v := ?_) rfl (by kernel_rfl) (fun _ _ _ h => h) rfl ?_ hHeld ?_
              rotate_left
              · intro w hSw; go_simp; all_goals with_reducible rfl
              try simp only [Act.put, List.setIfInBounds_toArray, List.set_cons_zero, List.set_cons_succ]
              refine take_in (i := 11) (v := ?_) rfl (by kernel_rfl) (fun _ _ _ h => h) rfl ?_ hHeld ?_
              rotate_left
              · intro w hSw; go_simp; all_goals with_reducible rfl
              try simp only [Act.put, List.setIfInBounds_toArray, List.set_cons_zero, List.set_cons_succ]
              refine take_in (i := 12) (v := ?_) rfl (by kernel_rfl) (fun _ _ _ h => h) rfl ?_ hHeld ?_
              rotate_left
              · intro w hSw; obtain ⟨h1, h2, h3, h4⟩ := hSw; go_simp; all_goals with_reducible rfl
              try simp only [Act.put, List.setIfInBounds_toArray, List.set_cons_zero, List.set_cons_succ]
              refine take_in (i := 13) (v := ?_) rfl (by kernel_rfl) (fun _ _ _ h => h) rfl ?_ hHeld ?_
              rotate_left
              · intro w hSw; go_simp; all_goals with_reducible rfl
              try simp only [Act.put, List.setIfInBounds_toArray, List.set_cons_zero, List.set_cons_succ]
              refine take_in (i := 14) (v := ?_) rfl (by kernel_rfl) (fun _ _ _ h => h) rfl ?_ hHeld ?_
              rotate_left
              · intro w hSw; go_simp; all_goals with_reducible rfl
              try simp only [Act.put, List.setIfInBounds_toArray, List.set_cons_zero, List.set_cons_succ]
              refine take_in (i := 15) (v := ?_) rfl (by kernel_rfl) (fun _ _ _ h => h) rfl ?_ hHeld ?_
              rotate_left
              · intro w hSw; go_simp; all_goals with_reducible rfl
              try simp only [Act.put, List.setIfInBounds_toArray, List.set_cons_zero, List.set_cons_succ]
              refine take_in (i := 16) (v := ?_) rfl (by kernel_rfl) (fun _ _ _ h => h) rfl ?_ hHeld ?_
              rotate_left
              · intro w hSw; obtain ⟨h1, h2, h3, h4⟩ := hSw; go_simp; all_goals with_reducible rfl
              try simp only [Act.put, List.setIfInBounds_toArray, List.set_cons_zero, List.set_cons_succ]
              refine take_in (i := 17) (v := ?_) rfl (by kernel_rfl) (fun _ _ _ h => h) rfl ?_ hHeld ?_
              rotate_left
              · intro w hSw; go_simp; all_goals with_reducible rfl
              try simp only [Act.put, List.setIfInBounds_toArray, List.set_cons_zero, List.set_cons_succ]
              refine take_in (i := 18) (v := ?_) rfl (by kernel_rfl) (fun _ _ _ h => h) rfl ?_ hHeld ?_
              rotate_left
              · intro w hSw; go_simp; all_goals with_reducible rfl
              try simp only [Act.put, List.setIfInBounds_toArray, List.set_cons_zero, List.set_cons_succ]
              refine wpAnyH_done (by kernel_rfl) ?_ _
              clear hc1 hc2 hc3 hc4
              go_wp2_with fail
              go_roundw
              case rel => exact ⟨j + 1, by go_num, by omega, Lib.hid HJ.out.drew⟩
              case measure => simp [intOf]; omega
            · have hjl' : (xs.length : Int) ≤ (j : Int) := by omega
              obtain ⟨G2, o2, mk, rfl, -, hmk, hc2⟩ := (HV.out wr K4.out).at_ hlt
              have bm := HBX.out mk (List.mem_of_getElem? hmk)
              obtain ⟨z, hz⟩ : ∃ z, 2 * mk = z := ⟨_, rfl⟩
              have HAT : Hid ((xs.map (fun x => 2 * x))[k]? = some z) := Lib.hid (by rw [List.getElem?_map, hmk, ← hz]; rfl)
              have hw1 : IntKind.i64.wrap (2 * mk) = z := by rw [hz]; exact IntWalk.i64_in _ (by omega)
              have hlk : Hid (((xs.map (fun x => 2 * x)).take k).length = k) := Lib.hid (by rw [List.length_take, List.length_map]; omega)
              have hk4 : k ≤ 4 := by omega
              clear hmk hz bm
              go_wp2_with (at_builtin; refine wp_app12 rfl _ _ rfl _ w4.heap.size _ _ k hlk.out z (by rfl) HJ.out.1.1 (by rfl) (by omega) HJ.out.1.2.size ?_)
              intro g c2 w' hown' hgrow
              have HL := Lib.hid (HJ.out.step HAT.out hown' hgrow)
              clear hown' hgrow
              go_wp2_with fail
              go_roundw
              case rel => exact ⟨k + 1, by first | rfl | go_num, by omega, HL⟩
              case measure => simp [intOf]; omega
        · have hlt' : (xs.length : Int) ≤ (k : Int) := by omega
          obtain ⟨o1, b1⟩ := HF.out.1.all (by rw [List.length_map]; omega)
          have O1 := Lib.hid o1
          have C5 := Lib.hid (below_step C4.out b1 C4.out.size)
          have D5 := Lib.hid (below_step D4.out b1 D4.out.size)
          generalize wr = w5 at *
          clear o1 b1 HF
          go_wp2_with fail
          refine (implReducedWeights_any w5 _ y (Hvx.out w5 D5.out)).mono ?_
          rintro e w6 ⟨vr, rfl, ovr, b6⟩
          rw [HRY.out] at ovr
          have C6 := Lib.hid (below_step C5.out b6 C5.out.size)
          have S6 := Lib.hid b6
          obtain ⟨Avr, cvr, rfl⟩ := ird_form12 ovr.rd HYL.out
          have Hvr := Lib.hid (fun wr (hb : Below w6.heap.size w6 wr) => ovr.rd.keep (SameAt.of_below hb))
          clear ovr b6
          have D6 := Lib.hid (below_step D5.out S6.out D5.out.size)
          go_wp2_with fail
          refine (sameInts_any w6 _ _ _ _ (Hvr.out w6 (Below.refl _ _)) (Hvx.out w6 D6.out)).mono ?_
          rintro e w7 ⟨q7, rfl, hw7⟩
          rw [decide_self]
          have S7 : Hid (Below w6.heap.size w6 w7) := Lib.hid (by rw [hw7]; exact below_drewN (Below.refl _ _) q7)
          have C7 := Lib.hid (below_step C6.out S7.out C6.out.size)
          clear hw7
          have D7 := Lib.hid (below_step D6.out S7.out D6.out.size)
          have O7 := Lib.hid (O1.out.keep (SameAt.of_below (below_step S6.out S7.out S6.out.size))).rd
          rcases Bool.eq_false_or_eq_true (wgtB (xs.map (fun x => 2 * x))) with h2 | h2
          · have HT2 := Lib.hid h2
            have HR2 := Lib.hid (HRT.out h2)
            clear h2
            go_wp2_with fail
            refine (implWeightsOk_any w7 _ _ O7.out).mono ?_
            rintro e w8 ⟨rfl, b8⟩
            rw [HT2.out]
            have C8 := Lib.hid (below_step C7.out b8 C7.out.size)
            have D8 := Lib.hid (below_step D7.out b8 D7.out.size)
            have O8 := Lib.hid (O7.out.keep (SameAt.of_below b8))
            clear b8
            go_wp2_with fail
            refine (implReducedWeights_any w8 _ _ O8.out).mono ?_
            rintro e w9 ⟨vt, rfl, ovt, b9⟩
            rw [HR2.out] at ovt
            have C9 := Lib.hid (below_step C8.out b9 C8.out.size)
            have S9 := Lib.hid b9
            obtain ⟨Avt, cvt, rfl⟩ := ird_form12 ovt.rd HYL.out
            have Hvt := Lib.hid (fun wr (hb : Below w9.heap.size w9 wr) => ovt.rd.keep (SameAt.of_below hb))
            clear ovt b9
            have D9 := Lib.hid (below_step D8.out S9.out D8.out.size)
            go_wp2_with fail
            refine (sameInts_any w9 _ _ _ _ (Hvt.out w9 (Below.refl _ _)) (Hvx.out w9 D9.out)).mono ?_
            rintro e w10 ⟨q10, rfl, hw10⟩
            rw [decide_self]
            have S10 : Hid (Below w9.heap.size w9 w10) := Lib.hid (by rw [hw10]; exact below_drewN (Below.refl _ _) q10)
            have C10 := Lib.hid (below_step C9.out S10.out C9.out.size)
            clear hw10
            go_wp2_with fail
            go_ret
            exact ⟨rfl, below_step HB1.out C10.out HB1.out.size⟩
          · have HT2 := Lib.hid h2
            clear h2
            go_wp2_with fail
            refine (implWeightsOk_any w7 _ _ O7.out).mono ?_
            rintro e w8 ⟨rfl, b8⟩
            rw [HT2.out]
            have C8 := Lib.hid (below_step C7.out b8 C7.out.size)
            clear b8
            go_wp2_with fail
            go_ret
            exact ⟨rfl, below_step HB1.out C8.out HB1.out.size⟩
    · have HB := Lib.hid h
      have HRX : Hid (redR xs = []) := Lib.hid (by rw [redR, h]; rfl)
      clear h
      go_wp2_with fail
      refine (implReducedWeights_any w1 _ xs (HV.out w1 C1.out)).mono ?_
      rintro e w2 ⟨vx, rfl, ovx, b2⟩
      rw [HRX.out] at ovx
      have C2 := Lib.hid (below_step C1.out b2 C1.out.size)
      have S2 := Lib.hid b2
      obtain ⟨Avx, cvx, rfl⟩ := ird_form12 ovx.rd (n := 0) rfl
      have Hvx := Lib.hid (fun wr (hb : Below w2.heap.size w2 wr) => ovx.rd.keep (SameAt.of_below hb))
      clear ovx b2
      go_wp2_with fail
      refine (specReducedWeights_any w2 _ xs (HV.out w2 C2.out)).mono ?_
      rintro e w3 ⟨vs, rfl, ovs, b3⟩
      rw [HRX.out] at ovs
      have C3 := Lib.hid (below_step C2.out b3 C2.out.size)
      have S3 := Lib.hid b3
      obtain ⟨Avs, cvs, rfl⟩ := ird_form12 ovs.rd (n := 0) rfl
      have Hvs := Lib.hid (fun wr (hb : Below w3.heap.size w3 wr) => ovs.rd.keep (SameAt.of_below hb))
      clear ovs b3
      go_wp2_with fail
      refine (sameInts_any w3 _ _ _ _ (Hvx.out w3 S3.out) (Hvs.out w3 (Below.refl _ _))).mono ?_
      rintro e w4 ⟨q4, rfl, hw4⟩
      rw [decide_self]
      have S4 : Hid (Below w3.heap.size w3 w4) := Lib.hid (by rw [hw4]; exact below_drewN (Below.refl _ _) q4)
      have C4 := Lib.hid (below_step C3.out S4.out C3.out.size)
      clear hw4
      go_wp2_with fail
      refine (implWeightsOk_any w4 _ xs (HV.out w4 C4.out)).mono ?_
      rintro e w5 ⟨rfl, b5⟩
      rw [HB.out]
      have C5 := Lib.hid (below_step C4.out b5 C4.out.size)
      clear b5
      go_wp2_with fail
      refine (alive_any _).mono ?_
      rintro e w' ⟨rfl, rfl⟩
      go_wp2_with fail
      go_ret
      exact ⟨rfl, below_step HB1.out C5.out HB1.out.size⟩

end Go.Proofs.Ytbjmhbkpeglpkaa
