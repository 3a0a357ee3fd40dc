/- The walk of the law of LearnedFrom. Conditions: rows of bytes that came in. (gen_fh.py) -/
import Derived.Test.YtbjmhbkpeglpkaaHn
namespace Go.Proofs.Ytbjmhbkpeglpkaa
open Go.RowKit
set_option linter.unusedVariables false

theorem mul_three12 {x y z : Int} (hx : 0 ≤ x ∧ x ≤ 1000000) (hy : 0 ≤ y ∧ y ≤ 1000000) (hz : 0 ≤ z ∧ z ≤ 9) : 0 ≤ x * y * z ∧ x * y * z ≤ 1000000 * 1000000 * 9 :=
  ⟨Int.mul_nonneg (mul_big12 hx hy).1 hz.1, Int.mul_le_mul (mul_big12 hx hy).2 hz.2 hz.1 (by omega)⟩

theorem ones_at12 {n k : Nat} (h : k < n) : (List.replicate n (1 : Int))[k]? = some 1 := by simp [h]

/-- what the law of LearnedFrom wants -/
theorem lrn_law {xs ys : List Int} (h : lrnB xs ys = true) : ∃ y, lrnR xs ys = y ∧ y.length = xs.length ∧ ys.length = xs.length ∧ 1 ≤ xs.length ∧ xs.length ≤ 4 ∧ (∀ x ∈ xs, 0 ≤ x ∧ x ≤ 1000000) ∧ (∀ x ∈ ys, 0 ≤ x ∧ x ≤ 9) ∧ (∀ x ∈ y, 0 ≤ x ∧ x ≤ 1000000) ∧
    (∀ (k j : Nat) (yk yj mk mj rk rj : Int), y[k]? = some yk → y[j]? = some yj → xs[k]? = some mk → xs[j]? = some mj → ys[k]? = some rk → ys[j]? = some rj → yk * mj * rj = yj * mk * rk) ∧
    (∀ (k : Nat) (yk : Int), y[k]? = some yk → xs[k]? = some 0 → yk = 0) ∧
    lrnB xs (List.replicate xs.length 1) = true ∧ lrnR xs (List.replicate xs.length 1) = redL xs ∧ redR xs = redL xs := by
  obtain ⟨h1, h2, h3⟩ := (lrnB_iff xs ys).1 h
  obtain ⟨a1, a2, -⟩ := (wgtB_iff xs).1 h1
  obtain ⟨b1, b2, b3⟩ := (eviB_iff _ ys).1 h2
  have b3' : ys.length = xs.length := by omega
  have hpl := prod_len b3'
  have hal := alike_red (wgt_of h3)
  have ho : lrnB xs (List.replicate xs.length 1) = true := (lrnB_iff _ _).2 ⟨h1, (eviB_iff _ _).2 ⟨fun x hx => by rw [List.eq_of_mem_replicate hx]; decide, b2, by simp⟩, by rw [prod_ones]; exact h1⟩
  refine ⟨redL (prodL xs ys), by rw [lrnR, if_pos h], by rw [red_len, hpl], b3', a2.1, a2.2, a1, b1, ((wgtB_iff _).1 (wgt_red h3)).1, ?_, ?_, ho, by rw [lrnR, if_pos ho, prod_ones], by rw [redR, if_pos h1]⟩
  · intro k j yk yj mk mj rk rj e1 e2 e3 e4 e5 e6
    have := hal k j yk yj (mk * rk) (mj * rj) e1 e2 (prod_at e3 e5) (prod_at e4 e6)
    rw [Int.mul_assoc, Int.mul_assoc]; exact this
  · intro k yk e1 e2
    have hk : k < ys.length := by have := (List.getElem?_eq_some_iff.1 e2).1; omega
    have e3 := red_at (prod_at e2 (List.getElem?_eq_getElem hk))
    rw [e3] at e1
    rw [← Option.some.inj e1]; simp

set_option maxRecDepth 100000 in
set_option maxHeartbeats 8000000 in
theorem FnLearnedFrom_walk (a0 : Option Addr) (len0 cap0 : Nat) (z0 : List Int) (w : World) (w0 : IsRowC .u8 w a0 len0 cap0 z0) :
    Calls Try.prog 6 #[.slice a0 len0 cap0] w fun e w' => e = .returned (.bool true) ∧ Below w.heap.size w w' := by
  by_cases hlen : 1048576 < len0
  · clear w0
    go_enter Try.func6, Try.ntmps6
    go_wp2
    go_ret
    exact ⟨rfl, Below.refl _ _⟩
  · have hlen' : decide (1048576 < len0) = false := by simpa using hlen
    go_enter Try.func6, Try.ntmps6
    go_wp2_with fail
    refine (drawLearnedFrom_any _ _ _ _ _ w0).mono ?_
    rintro e w1 ⟨v, u, xs, ys, rfl, ov, ou, hl4, hl5, B1⟩
    have HB1 := Lib.hid B1
    have ord := ov.rd
    have our := ou.rd
    have C1 := Lib.hid (Below.refl w1.heap.size w1)
    rcases Bool.eq_false_or_eq_true (lrnB xs ys) with h | h
    · obtain ⟨y, r1, r2, r3, r4, r5, r6, r7, r8, r9, r10, r11, r12, r13⟩ := lrn_law h
      obtain ⟨A, c, rfl, hl, hmx, -⟩ := id ord
      have HV : Hid (∀ wr, Below w1.heap.size w1 wr → IRd wr (.slice A xs.length c) xs) := Lib.hid (fun wr hb => ord.keep (SameAt.of_below hb))
      obtain ⟨A2, c2, rfl⟩ := ird_form12 our r3
      have HU := Lib.hid (fun wr (hb : Below w1.heap.size w1 wr) => our.keep (SameAt.of_below hb))
      have HOA : Hid (∀ k, k < xs.length → (List.replicate xs.length (1 : Int))[k]? = some 1) := Lib.hid (fun k hk => ones_at12 hk)
      have HOL : Hid ((List.replicate xs.length (1 : Int)).length = xs.length) := Lib.hid (List.length_replicate ..)
      obtain ⟨os, hos⟩ : ∃ os, List.replicate xs.length (1 : Int) = os := ⟨_, rfl⟩
      rw [hos] at HOA HOL r11 r12
      have HB := Lib.hid h
      have HRX := Lib.hid r1
      have HYL := Lib.hid r2
      have HRL := Lib.hid r3
      have HBX := Lib.hid r6
      have HBR := Lib.hid r7
      have HBY := Lib.hid r8
      have HAL := Lib.hid r9
      have HZ := Lib.hid r10
      have HBO := Lib.hid r11
      have HRO := Lib.hid r12
      have HRR := Lib.hid r13
      clear hos h r1 r2 r3 r6 r7 r8 r9 r10 r11 r12 r13 ord our ov ou B1 w0
      go_wp2_with fail
      refine (implLearnedFrom_any w1 _ _ xs ys (HV.out w1 C1.out) (HU.out w1 C1.out)).mono ?_
      rintro e w2 ⟨vx, rfl, ovx, b2⟩
      rw [HB.out]
      rw [HRX.out] at ovx
      have C2 := Lib.hid (below_step C1.out b2 C1.out.size)
      have S2 := Lib.hid b2
      obtain ⟨Avx, cvx, rfl⟩ := ird_form12 ovx.rd HYL.out
      have Hvx := Lib.hid (fun wr (hb : Below w2.heap.size w2 wr) => ovx.rd.keep (SameAt.of_below hb))
      clear ovx b2
      go_wp2_with fail
      refine (specLearnedFrom_any w2 _ _ xs ys (HV.out w2 C2.out) (HU.out w2 C2.out)).mono ?_
      rintro e w3 ⟨vs, rfl, ovs, b3⟩
      rw [HB.out]
      rw [HRX.out] at ovs
      have C3 := Lib.hid (below_step C2.out b3 C2.out.size)
      have S3 := Lib.hid b3
      obtain ⟨Avs, cvs, rfl⟩ := ird_form12 ovs.rd HYL.out
      have Hvs := Lib.hid (fun wr (hb : Below w3.heap.size w3 wr) => ovs.rd.keep (SameAt.of_below hb))
      clear ovs b3
      go_wp2_with fail
      refine (sameInts_any w3 _ _ _ _ (Hvx.out w3 S3.out) (Hvs.out w3 (Below.refl _ _))).mono ?_
      rintro e w4 ⟨q4, rfl, hw4⟩
      rw [decide_self]
      have S4 : Hid (Below w3.heap.size w3 w4) := Lib.hid (by rw [hw4]; exact below_drewN (Below.refl _ _) q4)
      have C4 := Lib.hid (below_step C3.out S4.out C3.out.size)
      clear hw4
      have D4 := Lib.hid (below_step S3.out S4.out S3.out.size)
      clear S2 S3 S4 Hvs
      have H0 : Hid (App12 w4 os 0 (.slice (some ⟨w4.heap.size, 0, none⟩) 0 0) (w4.alloc (.cells #[] 3))) := Lib.hid (app12_start w4 _)
      go_wp2_with fail
      go_loopw [9, 10] (fun p i wr => ∃ k : Nat, i = .int .i64 (k : Int) ∧ k ≤ xs.length ∧ Hid (App12 w4 os k p wr)) (fun _ i _ => xs.length - (intOf i).toNat)
      case atStart => exact ⟨0, rfl, Nat.zero_le _, H0⟩
      case round =>
        obtain ⟨k, rfl, hk, HF⟩ := hrel
        obtain ⟨g0, c0, rfl⟩ := HF.out.2
        clear H0
        by_cases hlt : k < xs.length
        · have hlt' : (k : Int) < (xs.length : Int) := by omega
          have hk0 : (0 : Int) ≤ (k : Int) := by omega
          have hlk : Hid ((os.take k).length = k) := Lib.hid (by rw [List.length_take]; have := HOL.out; omega)
          have hk4 : k ≤ 4 := by omega
          go_wp2_with (at_builtin; refine wp_app12 rfl _ _ rfl _ w4.heap.size _ _ k hlk.out 1 (by rfl) HF.out.1.1 (by rfl) (by omega) HF.out.1.2.size ?_)
          intro g c2 w' hown' hgrow
          have HL := Lib.hid (HF.out.step (HOA.out k hlt) hown' hgrow)
          clear hown' hgrow HF hlk
          go_wp2_with fail
          go_loopw [11] (fun i wq => ∃ j : Nat, i = .int .i64 (j : Int) ∧ j ≤ xs.length ∧ Hid (App12 w4 os (k + 1) (.slice (some ⟨g, 0, none⟩) (k + 1) c2) wq)) (fun i _ => xs.length - (intOf i).toNat)
          case atStart => exact ⟨0, rfl, Nat.zero_le _, HL⟩
          case round =>
            clear HL
            obtain ⟨j, rfl, hj, HJ⟩ := hrel
            have K4 := Lib.hid (below_step C4.out HJ.out.1.2 C4.out.size)
            have L4 := Lib.hid (below_step D4.out HJ.out.1.2 D4.out.size)
            by_cases hjl : j < xs.length
            · have hjl' : (j : Int) < (xs.length : Int) := by omega
              have hj0 : (0 : Int) ≤ (j : Int) := by omega
              have hjy : j < y.length := by have := HYL.out; omega
              have hjr : j < ys.length := by have := HRL.out; omega
              have hkr : k < ys.length := by have := HRL.out; omega
              obtain ⟨G1, o1, yk, rfl, -, hyk, hc1⟩ := (Hvx.out wr L4.out).at_ hlt
              obtain ⟨G2, o2, mj, rfl, -, hmj, hc2⟩ := (HV.out wr K4.out).at_ hjl
              obtain ⟨G3, o3, rj, rfl, -, hrj, hc3⟩ := (HU.out wr K4.out).at_ hjl
              obtain ⟨yj, hyj⟩ : ∃ x, y[j]? = some x := ⟨_, List.getElem?_eq_getElem hjy⟩
              obtain ⟨mk, hmk⟩ : ∃ x, xs[k]? = some x := ⟨_, List.getElem?_eq_getElem hlt⟩
              obtain ⟨rk, hrk⟩ : ∃ x, ys[k]? = some x := ⟨_, List.getElem?_eq_getElem hkr⟩
              have hc4 := IRd.cellk (Hvx.out wr L4.out) hyj
              have hc5 := IRd.cellk (HV.out wr K4.out) hmk
              have hc6 := IRd.cellk (HU.out wr K4.out) hrk
              have u1 := mul_big12 (HBY.out yk (List.mem_of_getElem? hyk)) (HBX.out mj (List.mem_of_getElem? hmj))
              have u2 := mul_big12 (HBY.out yj (List.mem_of_getElem? hyj)) (HBX.out mk (List.mem_of_getElem? hmk))
              have t1 := mul_three12 (HBY.out yk (List.mem_of_getElem? hyk)) (HBX.out mj (List.mem_of_getElem? hmj)) (HBR.out rj (List.mem_of_getElem? hrj))
              have t2 := mul_three12 (HBY.out yj (List.mem_of_getElem? hyj)) (HBX.out mk (List.mem_of_getElem? hmk)) (HBR.out rk (List.mem_of_getElem? hrk))
              have hw1 : IntKind.i64.wrap (yk * mj) = yk * mj := IntWalk.i64_in _ (by omega)
              have hw2 : IntKind.i64.wrap (yj * mk) = yj * mk := IntWalk.i64_in _ (by omega)
              have hw3 : IntKind.i64.wrap (yk * mj * rj) = yk * mj * rj := IntWalk.i64_in _ (by clear hw1 hw2; omega)
              have hw4 : IntKind.i64.wrap (yj * mk * rk) = yj * mk * rk := IntWalk.i64_in _ (by clear hw1 hw2 hw3; omega)
              have hne : (yk * mj * rj != yj * mk * rk) = false := by rw [HAL.out k j yk yj mk mj rk rj hyk hyj hmk hmj hrk hrj]; simp
              clear hyk hmj hyj hmk hrj hrk t1 t2 u1 u2
              go_wp2_with fail
              refine wp_region_held_drew (S := fun w' => w'.cell? ⟨G1, o1 + k, none⟩ = some (.int .i64 yk) ∧ w'.cell? ⟨G2, o2 + j, none⟩ = some (.int .i64 mj) ∧ w'.cell? ⟨G3, o3 + j, none⟩ = some (.int .i64 rj) ∧ w'.cell? ⟨G1, o1 + j, none⟩ = some (.int .i64 yj) ∧ w'.cell? ⟨G2, o2 + k, none⟩ = some (.int .i64 mk) ∧ w'.cell? ⟨G3, o3 + k, none⟩ = some (.int .i64 rk)) (by kernel_rfl) (⟨hc1, hc2, hc3, hc4, hc5, hc6⟩) (fun hHeld => ?_)
              refine take_in (i := 0) (v := ?_) rfl (by kernel_rfl) (fun _ _ _ h => h) rfl ?_ hHeld ?_
              rotate_left
              · intro w hSw; go_simp; all_goals with_reducible rfl
              try simp only [Act.put, List.setIfInBounds_toArray, List.set_cons_zero, List.set_cons_succ]
              refine take_in (i := 1) (v := ?_) rfl (by kernel_rfl) (fun _ _ _ h => h) rfl ?_ hHeld ?_
              rotate_left
              · intro w hSw; go_simp; all_goals with_reducible rfl
              try simp only [Act.put, List.setIfInBounds_toArray, List.set_cons_zero, List.set_cons_succ]
              refine take_in (i := 2) (v := ?_) rfl (by kernel_rfl) (fun _ _ _ h => h) rfl ?_ hHeld ?_
              rotate_left
              · intro w hSw; go_simp; all_goals with_reducible rfl
              try simp only [Act.put, List.setIfInBounds_toArray, List.set_cons_zero, List.set_cons_succ]
              refine take_in (i := 3) (v := ?_) rfl (by kernel_rfl) (fun _ _ _ h => h) rfl ?_ hHeld ?_
              rotate_left
              · intro w hSw; obtain ⟨h1, h2, h3, h4, h5, h6⟩ := hSw; go_simp; all_goals with_reducible rfl
              try simp only [Act.put, List.setIfInBounds_toArray, List.set_cons_zero, List.set_cons_succ]
              refine take_in (i := 4) (v := ?_) rfl (by kernel_rfl) (fun _ _ _ h => h) rfl ?_ hHeld ?_
              rotate_left
              · intro w hSw; go_simp; all_goals with_reducible rfl
              try simp only [Act.put, List.setIfInBounds_toArray, List.set_cons_zero, List.set_cons_succ]
              refine take_in (i := 5) (v := ?_) rfl (by kernel_rfl) (fun _ _ _ h => h) rfl ?_ hHeld ?_
              rotate_left
              · intro w hSw; go_simp; all_goals with_reducible rfl
              try simp only [Act.put, List.setIfInBounds_toArray, List.set_cons_zero, List.set_cons_succ]
              refine take_in (i := 6) (v := ?_) rfl (by kernel_rfl) (fun _ _ _ h => h) rfl ?_ hHeld ?_
              rotate_left
              · intro w hSw; go_simp; all_goals with_reducible rfl
              try simp only [Act.put, List.setIfInBounds_toArray, List.set_cons_zero, List.set_cons_succ]
              refine take_in (i := 7) (v := ?_) rfl (by kernel_rfl) (fun _ _ _ h => h) rfl ?_ hHeld ?_
              rotate_left
              · intro w hSw; obtain ⟨h1, h2, h3, h4, h5, h6⟩ := hSw; go_simp; all_goals with_reducible rfl
              try simp only [Act.put, List.setIfInBounds_toArray, List.set_cons_zero, List.set_cons_succ]
              refine take_in (i := 8) (v := ?_) rfl (by kernel_rfl) (fun _ _ _ h => h) rfl ?_ hHeld ?_
              rotate_left
              · intro w hSw; go_simp; all_goals with_reducible rfl
              try simp only [Act.put, List.setIfInBounds_toArray, List.set_cons_zero, List.set_cons_succ]
              refine take_in (i := 9) (v := ?_) rfl (by kernel_rfl) (fun _ _ _ h => h) rfl ?_ hHeld ?_
              rotate_left
              · intro w hSw; go_simp; all_goals with_reducible rfl
              try simp only [Act.put, List.setIfInBounds_toArray, List.set_cons_zero, List.set_cons_succ]
              refine take_in (i := 10) (v := ?_) rfl (by kernel_rfl) (fun _ _ _ h => h) rfl ?_ hHeld ?_
              rotate_left
              · intro w hSw; go_simp; all_goals with_reducible rfl
              try simp only [Act.put, List.setIfInBounds_toArray, List.set_cons_zero, List.set_cons_succ]
              refine take_in (i := 11) (v := ?_) rfl (by kernel_rfl) (fun _ _ _ h => h) rfl ?_ hHeld ?_
              rotate_left
              · intro w hSw; go_simp; all_goals with_reducible rfl
              try simp only [Act.put, List.setIfInBounds_toArray, List.set_cons_zero, List.set_cons_succ]
              refine take_in (i := 12) (v := ?_) rfl (by kernel_rfl) (fun _ _ _ h => h) rfl ?_ hHeld ?_
              rotate_left
              · intro w hSw; obtain ⟨h1, h2, h3, h4, h5, h6⟩ := hSw; go_simp; all_goals with_reducible rfl
              try simp only [Act.put, List.setIfInBounds_toArray, List.set_cons_zero, List.set_cons_succ]
              refine take_in (i := 13) (v := ?_) rfl (by kernel_rfl) (fun _ _ _ h => h) rfl ?_ hHeld ?_
              rotate_left
              · intro w hSw; go_simp; all_goals with_reducible rfl
              try simp only [Act.put, List.setIfInBounds_toArray, List.set_cons_zero, List.set_cons_succ]
              refine take_in (i := 14) (v := ?_) rfl (by kernel_rfl) (fun _ _ _ h => h) rfl ?_ hHeld ?_
              rotate_left
              · intro w hSw; go_simp; all_goals with_reducible rfl
              try simp only [Act.put, List.setIfInBounds_toArray, List.set_cons_zero, List.set_cons_succ]
              refine take_in (i := 15) (v := ?_) rfl (by kernel_rfl) (fun _ _ _ h => h) rfl ?_ hHeld ?_
              rotate_left
              · intro w hSw; go_simp; all_goals with_reducible rfl
              try simp only [Act.put, List.setIfInBounds_toArray, List.set_cons_zero, List.set_cons_succ]
              refine take_in (i := 16) (v := ?_) rfl (by kernel_rfl) (fun _ _ _ h => h) rfl ?_ hHeld ?_
              rotate_left
              · intro w hSw; go_simp; all_goals with_reducible rfl
              try simp only [Act.put, List.setIfInBounds_toArray, List.set_cons_zero, List.set_cons_succ]
              refine take_in (i := 17) (v := ?_) rfl (by kernel_rfl) (fun _ _ _ h => h) rfl ?_ hHeld ?_
              rotate_left
              · intro w hSw; obtain ⟨h1, h2, h3, h4, h5, h6⟩ := hSw; go_simp; all_goals with_reducible rfl
              try simp only [Act.put, List.setIfInBounds_toArray, List.set_cons_zero, List.set_cons_succ]
              refine take_in (i := 18) (v := ?_) rfl (by kernel_rfl) (fun _ _ _ h => h) rfl ?_ hHeld ?_
              rotate_left
              · intro w hSw; go_simp; all_goals with_reducible rfl
              try simp only [Act.put, List.setIfInBounds_toArray, List.set_cons_zero, List.set_cons_succ]
              refine take_in (i := 19) (v := ?_) rfl (by kernel_rfl) (fun _ _ _ h => h) rfl ?_ hHeld ?_
              rotate_left
              · intro w hSw; go_simp; all_goals with_reducible rfl
              try simp only [Act.put, List.setIfInBounds_toArray, List.set_cons_zero, List.set_cons_succ]
              refine take_in (i := 20) (v := ?_) rfl (by kernel_rfl) (fun _ _ _ h => h) rfl ?_ hHeld ?_
              rotate_left
              · intro w hSw; go_simp; all_goals with_reducible rfl
              try simp only [Act.put, List.setIfInBounds_toArray, List.set_cons_zero, List.set_cons_succ]
              refine take_in (i := 21) (v := ?_) rfl (by kernel_rfl) (fun _ _ _ h => h) rfl ?_ hHeld ?_
              rotate_left
              · intro w hSw; obtain ⟨h1, h2, h3, h4, h5, h6⟩ := hSw; go_simp; all_goals with_reducible rfl
              try simp only [Act.put, List.setIfInBounds_toArray, List.set_cons_zero, List.set_cons_succ]
              refine take_in (i := 22) (v := ?_) rfl (by kernel_rfl) (fun _ _ _ h => h) rfl ?_ hHeld ?_
              rotate_left
              · intro w hSw; go_simp; all_goals with_reducible rfl
              try simp only [Act.put, List.setIfInBounds_toArray, List.set_cons_zero, List.set_cons_succ]
              refine take_in (i := 23) (v := ?_) rfl (by kernel_rfl) (fun _ _ _ h => h) rfl ?_ hHeld ?_
              rotate_left
              · intro w hSw; go_simp; all_goals with_reducible rfl
              try simp only [Act.put, List.setIfInBounds_toArray, List.set_cons_zero, List.set_cons_succ]
              refine take_in (i := 24) (v := ?_) rfl (by kernel_rfl) (fun _ _ _ h => h) rfl ?_ hHeld ?_
              rotate_left
              · intro w hSw; go_simp; all_goals with_reducible rfl
              try simp only [Act.put, List.setIfInBounds_toArray, List.set_cons_zero, List.set_cons_succ]
              refine take_in (i := 25) (v := ?_) rfl (by kernel_rfl) (fun _ _ _ h => h) rfl ?_ hHeld ?_
              rotate_left
              · intro w hSw; go_simp; all_goals with_reducible rfl
              try simp only [Act.put, List.setIfInBounds_toArray, List.set_cons_zero, List.set_cons_succ]
              refine take_in (i := 26) (v := ?_) rfl (by kernel_rfl) (fun _ _ _ h => h) rfl ?_ hHeld ?_
              rotate_left
              · intro w hSw; obtain ⟨h1, h2, h3, h4, h5, h6⟩ := hSw; go_simp; all_goals with_reducible rfl
              try simp only [Act.put, List.setIfInBounds_toArray, List.set_cons_zero, List.set_cons_succ]
              refine take_in (i := 27) (v := ?_) rfl (by kernel_rfl) (fun _ _ _ h => h) rfl ?_ hHeld ?_
              rotate_left
              · intro w hSw; go_simp; all_goals with_reducible rfl
              try simp only [Act.put, List.setIfInBounds_toArray, List.set_cons_zero, List.set_cons_succ]
              refine take_in (i := 28) (v := ?_) rfl (by kernel_rfl) (fun _ _ _ h => h) rfl ?_ hHeld ?_
              rotate_left
              · intro w hSw; go_simp; all_goals with_reducible rfl
              try simp only [Act.put, List.setIfInBounds_toArray, List.set_cons_zero, List.set_cons_succ]
              refine wpAnyH_done (by kernel_rfl) ?_ _
              clear hc1 hc2 hc3 hc4 hc5 hc6
              go_wp2_with fail
              go_roundw
              case rel => exact ⟨j + 1, by go_num, by omega, Lib.hid HJ.out.drew⟩
              case measure => simp [intOf]; omega
            · have hjl' : (xs.length : Int) ≤ (j : Int) := by omega
              obtain ⟨G1, o1, yk, rfl, -, hyk, hc1⟩ := (Hvx.out wr L4.out).at_ hlt
              obtain ⟨G2, o2, mk, rfl, -, hmk, hc2⟩ := (HV.out wr K4.out).at_ hlt
              by_cases h0 : mk = 0
              · subst h0
                have hy0 := HZ.out k yk hyk hmk
                subst hy0
                clear hyk hmk
                go_wp2_with fail
                go_roundw
                case rel => exact ⟨k + 1, by first | rfl | go_num, by omega, HJ⟩
                case measure => simp [intOf]; omega
              · have hm0 : (mk == 0) = false := by simpa using h0
                clear hyk hmk h0
                go_wp2_with fail
                go_roundw
                case rel => exact ⟨k + 1, by first | rfl | go_num, by omega, HJ⟩
                case measure => simp [intOf]; omega
        · have hlt' : (xs.length : Int) ≤ (k : Int) := by omega
          obtain ⟨o1, b1⟩ := HF.out.1.all (by have := HOL.out; omega)
          have O1 := Lib.hid o1
          have C5 := Lib.hid (below_step C4.out b1 C4.out.size)
          generalize wr = w5 at *
          clear o1 b1 HF
          go_wp2_with fail
          refine (implLearnedFrom_any w5 _ _ xs _ (HV.out w5 C5.out) O1.out.rd).mono ?_
          rintro e w6 ⟨vr, rfl, ovr, b6⟩
          rw [HBO.out]
          rw [HRO.out] at ovr
          have C6 := Lib.hid (below_step C5.out b6 C5.out.size)
          have S6 := Lib.hid b6
          obtain ⟨Avr, cvr, rfl⟩ := ird_form12 ovr.rd (red_len xs)
          have Hvr := Lib.hid (fun wr (hb : Below w6.heap.size w6 wr) => ovr.rd.keep (SameAt.of_below hb))
          clear ovr b6
          go_wp2_with fail
          refine (implReducedWeights_any w6 _ xs (HV.out w6 C6.out)).mono ?_
          rintro e w7 ⟨vt, rfl, ovt, b7⟩
          rw [HRR.out] at ovt
          have C7 := Lib.hid (below_step C6.out b7 C6.out.size)
          have S7 := Lib.hid b7
          obtain ⟨Avt, cvt, rfl⟩ := ird_form12 ovt.rd (red_len xs)
          have Hvt := Lib.hid (fun wr (hb : Below w7.heap.size w7 wr) => ovt.rd.keep (SameAt.of_below hb))
          clear ovt b7
          go_wp2_with fail
          refine (sameInts_any w7 _ _ _ _ (Hvr.out w7 S7.out) (Hvt.out w7 (Below.refl _ _))).mono ?_
          rintro e w8 ⟨q8, rfl, hw8⟩
          rw [decide_self]
          have S8 : Hid (Below w7.heap.size w7 w8) := Lib.hid (by rw [hw8]; exact below_drewN (Below.refl _ _) q8)
          have C8 := Lib.hid (below_step C7.out S8.out C7.out.size)
          clear hw8
          go_wp2_with fail
          go_ret
          exact ⟨rfl, below_step HB1.out C8.out HB1.out.size⟩
    · have HB := Lib.hid h
      have HRX : Hid (lrnR xs ys = []) := Lib.hid (by rw [lrnR, h]; rfl)
      obtain ⟨A, c, rfl, hl, hmx, -⟩ := id ord
      have HV : Hid (∀ wr, Below w1.heap.size w1 wr → IRd wr (.slice A xs.length c) xs) := Lib.hid (fun wr hb => ord.keep (SameAt.of_below hb))
      obtain ⟨A2, c2, rfl⟩ := ird_form12 our rfl
      have HU := Lib.hid (fun wr (hb : Below w1.heap.size w1 wr) => our.keep (SameAt.of_below hb))
      clear h ord our ov ou B1 w0
      go_wp2_with fail
      refine (implLearnedFrom_any w1 _ _ xs ys (HV.out w1 C1.out) (HU.out w1 C1.out)).mono ?_
      rintro e w2 ⟨vx, rfl, ovx, b2⟩
      rw [HB.out]
      rw [HRX.out] at ovx
      have C2 := Lib.hid (below_step C1.out b2 C1.out.size)
      have S2 := Lib.hid b2
      obtain ⟨Avx, cvx, rfl⟩ := ird_form12 ovx.rd (n := 0) rfl
      have Hvx := Lib.hid (fun wr (hb : Below w2.heap.size w2 wr) => ovx.rd.keep (SameAt.of_below hb))
      clear ovx b2
      go_wp2_with fail
      refine (specLearnedFrom_any w2 _ _ xs ys (HV.out w2 C2.out) (HU.out w2 C2.out)).mono ?_
      rintro e w3 ⟨vs, rfl, ovs, b3⟩
      rw [HB.out]
      rw [HRX.out] at ovs
      have C3 := Lib.hid (below_step C2.out b3 C2.out.size)
      have S3 := Lib.hid b3
      obtain ⟨Avs, cvs, rfl⟩ := ird_form12 ovs.rd (n := 0) rfl
      have Hvs := Lib.hid (fun wr (hb : Below w3.heap.size w3 wr) => ovs.rd.keep (SameAt.of_below hb))
      clear ovs b3
      go_wp2_with fail
      refine (sameInts_any w3 _ _ _ _ (Hvx.out w3 S3.out) (Hvs.out w3 (Below.refl _ _))).mono ?_
      rintro e w4 ⟨q4, rfl, hw4⟩
      rw [decide_self]
      have S4 : Hid (Below w3.heap.size w3 w4) := Lib.hid (by rw [hw4]; exact below_drewN (Below.refl _ _) q4)
      have C4 := Lib.hid (below_step C3.out S4.out C3.out.size)
      clear hw4
      go_wp2_with fail
      refine (alive_any _).mono ?_
      rintro e w' ⟨rfl, rfl⟩
      go_wp2_with fail
      go_ret
      exact ⟨rfl, below_step HB1.out C4.out HB1.out.size⟩

end Go.Proofs.Ytbjmhbkpeglpkaa
