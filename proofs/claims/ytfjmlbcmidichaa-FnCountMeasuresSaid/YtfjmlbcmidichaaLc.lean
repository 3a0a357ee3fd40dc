/- The walk of the law of CountMeasures. Conditions: rows of bytes that came in. -/
import Derived.Test.YtfjmlbcmidichaaDo
import Derived.Test.YtfjmlbcmidichaaNj
import Derived.Test.YtfjmlbcmidichaaEv2
namespace Go.Proofs.Ytfjmlbcmidichaa
open Go.RowKit
set_option linter.unusedVariables false

theorem GRd.take {α : Type} {c : Nat} {enc : α → List Value} {w : World} {A : Option Addr} {n cp : Nat} {xs : List α} (h : GRd c enc w (.slice A n cp) xs) {k : Nat} (hk : k ≤ n) : GRd c enc w (.slice A k cp) (xs.take k) := by
  obtain ⟨A', cp', e, hl, hm, hc⟩ := h
  injection e with e1 e2 e3
  subst e1
  subst e2
  subst e3
  have hlen : (xs.take k).length = k := by simp; omega
  refine ⟨A, cp, by rw [hlen], by omega, hm, fun h0 => ?_⟩
  obtain ⟨b, off, hA, hb, hcell⟩ := hc (by omega)
  refine ⟨b, off, hA, hb, fun i x hx j u hu => hcell i x ?_ j u hu⟩
  rw [List.getElem?_take] at hx
  split at hx
  · exact hx
  · cases hx

theorem litq_rd (w : World) : QRd (w.alloc (.cells #[] 33)) (.slice (some ⟨w.heap.size, 0, none⟩) 0 0) [] :=
  GOwn.rd (e := 33) (base := 0) qC_len (World.ownsRow_lit w #[] 0 (Nat.zero_le _) (by unfold maxLen; omega) rfl)

theorem bok_take {n : Int} {qs : List Qt} (h : bokB n qs = true) (k : Nat) : bokB n (qs.take k) = true := by
  rw [bokB_iff] at h ⊢
  exact ⟨h.1, by simp; omega, fun q hq => h.2.2 q (List.mem_of_mem_take hq)⟩

theorem bok_nil {n : Int} {qs : List Qt} (h : bokB n qs = true) : bokB n [] = true := by
  have := bok_take h 0
  rwa [List.take_zero] at this

theorem count_yes2 {n : Int} {qs : List Qt} (h : bokB n qs = true) : countI n qs = (countFit n.toNat qs : Int) := by rw [countI, if_pos h]

theorem fair_yes2 {n : Int} {qs : List Qt} (h : bokB n qs = true) : fairB n qs = decide (0 < countFit n.toNat qs) := by rw [fairB, h, count_any]; rfl

theorem count_ways : countI 1 [] = 1 ∧ countI 2 [] = 37 ∧ countI 3 [] = 703 ∧ countI 4 [] = 9139 := by
  obtain ⟨a1, a2, a3, a4⟩ := lay_len36
  refine ⟨?_, ?_, ?_, ?_⟩
  · rw [count_yes2 (by decide)]; show ((countFit 1 [] : Nat) : Int) = 1; rw [count_nil (by omega) (by omega), a1]; rfl
  · rw [count_yes2 (by decide)]; show ((countFit 2 [] : Nat) : Int) = 37; rw [count_nil (by omega) (by omega), a2]; rfl
  · rw [count_yes2 (by decide)]; show ((countFit 3 [] : Nat) : Int) = 703; rw [count_nil (by omega) (by omega), a3]; rfl
  · rw [count_yes2 (by decide)]; show ((countFit 4 [] : Nat) : Int) = 9139; rw [count_nil (by omega) (by omega), a4]; rfl

theorem count_less {n : Int} {qs : List Qt} (h : bokB n qs = true) (k : Nat) : countI n qs ≤ countI n (qs.take k) := by
  rw [count_yes2 h, count_yes2 (bok_take h k)]
  have := count_sub (w := n.toNat) (qs := qs) (ps := qs.take k) (fun q hq => List.mem_of_mem_take hq)
  omega

set_option maxRecDepth 100000 in
set_option maxHeartbeats 8000000 in
theorem FnCountMeasures_walk (a0 : Option Addr) (len0 cap0 : Nat) (z0 : List Int) (w : World) (w0 : IsRowC .u8 w a0 len0 cap0 z0) :
    Calls Try.prog 5 #[.slice a0 len0 cap0] w fun e w' => e = .returned (.bool true) ∧ Below w.heap.size w w' := by
  by_cases hlen : 1048576 < len0
  · clear w0
    go_enter Try.func5, Try.ntmps5
    go_wp2
    go_ret
    exact ⟨rfl, Below.refl _ _⟩
  · have hlen' : decide (1048576 < len0) = false := by simpa using hlen
    go_enter Try.func5, Try.ntmps5
    go_wp2_with fail
    refine (drawCountMeasures_any _ _ _ _ _ w0).mono ?_
    rintro e w1 ⟨n, vb, qs, rfl, ovb1, hl4, B1⟩
    clear hlen hlen' w0
    have z1 := B1.size
    obtain ⟨A, c, rfl, hlc, hm⟩ := (ovb1.rd qC_len).form
    rcases Bool.eq_false_or_eq_true (bokB n qs) with hb | hb
    · obtain ⟨cc, hcc⟩ : ∃ cc, countI n qs = cc := ⟨_, rfl⟩
      have c0 : 0 ≤ cc := by rw [← hcc, count_yes2 hb]; omega
      obtain ⟨f, hf⟩ : ∃ f, fairB n qs = f := ⟨_, rfl⟩
      have hcf : f = decide (0 < cc) := by
        rw [← hf, fair_yes2 hb, ← hcc, count_yes2 hb]
        exact decide_eq_decide.2 (by omega)
      have HCC := Lib.hid hcc
      have HF := Lib.hid hf
      have HCF := Lib.hid hcf
      have HT : Hid (∀ k, cc ≤ countI n (qs.take k)) := Lib.hid (fun k => by rw [← hcc]; exact count_less hb k)
      have hn := ((bokB_iff _ _).1 hb).1
      have hn1 : 1 ≤ n := hn.1
      have hn2 : n ≤ 4 := hn.2
      clear hcc hf hb hn hcf
      obtain rfl | rfl | rfl | rfl : n = 1 ∨ n = 2 ∨ n = 3 ∨ n = 4 := by omega
      · clear hn1 hn2
        go_wp2_with fail
        refine (implCountMeasures_any w1 1 _ qs (ovb1.rd qC_len)).mono ?_
        rintro e w2 ⟨rfl, b2⟩
        rw [HCC.out]
        have z2 := b2.size
        have B2 := below_step B1 b2 (by omega)
        have ovb2 := ovb1.keep (SameAt.of_below b2)
        clear B1 b2 ovb1
        go_wp2_with fail
        refine (specCountMeasures_any w2 1 _ qs (ovb2.rd qC_len)).mono ?_
        rintro e w3 ⟨rfl, b3⟩
        rw [HCC.out]
        have z3 := b3.size
        have B3 := below_step B2 b3 (by omega)
        have ovb3 := ovb2.keep (SameAt.of_below b3)
        clear B2 b3 ovb2
        go_wp2_with fail
        go_loop [6, 7] (fun x i => (x = .int .i64 1 ∧ i = .int .i64 1)) (fun _ i => 1 - (intOf i).toNat)
        case atStart => simp
        case round =>
          obtain ⟨rfl, rfl⟩ := hrel
          · skip
            go_wp2_with fail
            refine (implFairOk_any w3 1 _ qs (ovb3.rd qC_len)).mono ?_
            rintro e w4 ⟨rfl, b4⟩
            rw [HF.out]
            have z4 := b4.size
            have B4 := below_step B3 b4 (by omega)
            have ovb4 := ovb3.keep (SameAt.of_below b4)
            clear B3 b4 ovb3
            have hcf := HCF.out
            rcases Int.lt_or_le 0 cc with hp | hp
            · skip
              obtain rfl : f = true := by rw [hcf]; simp; omega
              clear hcf HCF
              go_wp2_with fail
              refine (implCountMeasures_any _ 1 _ [] (litq_rd w4)).mono ?_
              rintro e w5 ⟨rfl, b5⟩
              rw [count_ways.1]
              have c5 : Below w4.heap.size w4 w5 := below_step ((Below.refl _ _).alloc (Nat.le_refl _) _) b5 (by simp)
              have z5 := c5.size
              have B5 := below_step B4 c5 (by omega)
              have ovb5 := ovb4.keep (SameAt.of_below c5)
              clear B4 b5 c5 ovb4
              by_cases hz : qs.length = 0
              · have hz0 : ((qs.length : Int)) = 0 := by omega
                go_wp2_with fail
                go_ret
                exact ⟨ret_bool (by simp <;> omega), B5⟩
              · have hz1 : (1 : Int) ≤ (qs.length : Int) := by omega
                have hz4 : (qs.length : Int) ≤ 4 := by omega
                obtain ⟨k, hk⟩ : ∃ k, qs.length = k + 1 := ⟨qs.length - 1, by omega⟩
                obtain ⟨ck, hck⟩ : ∃ ck, countI 1 (qs.take k) = ck := ⟨_, rfl⟩
                have hle : cc ≤ ck := by rw [← hck]; exact HT.out k
                have HCK := Lib.hid hck
                clear hck
                have hk1 : (qs.length : Int) - 1 = (k : Int) := by omega
                have hk2 : (k : Int) ≤ (c : Int) := by omega
                go_wp2_with fail
                refine (implCountMeasures_any w5 1 _ (qs.take k) (GRd.take (ovb5.rd qC_len) (by omega))).mono ?_
                rintro e w6 ⟨rfl, b6⟩
                rw [HCK.out]
                have z6 := b6.size
                have B6 := below_step B5 b6 (by omega)
                have ovb6 := ovb5.keep (SameAt.of_below b6)
                clear B5 b6 ovb5
                go_wp2_with fail
                go_ret
                exact ⟨ret_bool (by simp <;> omega), B6⟩
            · skip
              obtain rfl : f = false := by rw [hcf]; simp; omega
              clear hcf HCF
              go_wp2_with fail
              refine (implCountMeasures_any _ 1 _ [] (litq_rd w4)).mono ?_
              rintro e w5 ⟨rfl, b5⟩
              rw [count_ways.1]
              have c5 : Below w4.heap.size w4 w5 := below_step ((Below.refl _ _).alloc (Nat.le_refl _) _) b5 (by simp)
              have z5 := c5.size
              have B5 := below_step B4 c5 (by omega)
              have ovb5 := ovb4.keep (SameAt.of_below c5)
              clear B4 b5 c5 ovb4
              by_cases hz : qs.length = 0
              · have hz0 : ((qs.length : Int)) = 0 := by omega
                go_wp2_with fail
                go_ret
                exact ⟨ret_bool (by simp <;> omega), B5⟩
              · have hz1 : (1 : Int) ≤ (qs.length : Int) := by omega
                have hz4 : (qs.length : Int) ≤ 4 := by omega
                obtain ⟨k, hk⟩ : ∃ k, qs.length = k + 1 := ⟨qs.length - 1, by omega⟩
                obtain ⟨ck, hck⟩ : ∃ ck, countI 1 (qs.take k) = ck := ⟨_, rfl⟩
                have hle : cc ≤ ck := by rw [← hck]; exact HT.out k
                have HCK := Lib.hid hck
                clear hck
                have hk1 : (qs.length : Int) - 1 = (k : Int) := by omega
                have hk2 : (k : Int) ≤ (c : Int) := by omega
                go_wp2_with fail
                refine (implCountMeasures_any w5 1 _ (qs.take k) (GRd.take (ovb5.rd qC_len) (by omega))).mono ?_
                rintro e w6 ⟨rfl, b6⟩
                rw [HCK.out]
                have z6 := b6.size
                have B6 := below_step B5 b6 (by omega)
                have ovb6 := ovb5.keep (SameAt.of_below b6)
                clear B5 b6 ovb5
                go_wp2_with fail
                go_ret
                exact ⟨ret_bool (by simp <;> omega), B6⟩
      · clear hn1 hn2
        go_wp2_with fail
        refine (implCountMeasures_any w1 2 _ qs (ovb1.rd qC_len)).mono ?_
        rintro e w2 ⟨rfl, b2⟩
        rw [HCC.out]
        have z2 := b2.size
        have B2 := below_step B1 b2 (by omega)
        have ovb2 := ovb1.keep (SameAt.of_below b2)
        clear B1 b2 ovb1
        go_wp2_with fail
        refine (specCountMeasures_any w2 2 _ qs (ovb2.rd qC_len)).mono ?_
        rintro e w3 ⟨rfl, b3⟩
        rw [HCC.out]
        have z3 := b3.size
        have B3 := below_step B2 b3 (by omega)
        have ovb3 := ovb2.keep (SameAt.of_below b3)
        clear B2 b3 ovb2
        go_wp2_with fail
        go_loop [6, 7] (fun x i => (x = .int .i64 1 ∧ i = .int .i64 1) ∨ (x = .int .i64 37 ∧ i = .int .i64 2)) (fun _ i => 2 - (intOf i).toNat)
        case atStart => simp
        case round =>
          obtain ⟨rfl, rfl⟩ | ⟨rfl, rfl⟩ := hrel
          · go_wp2_with fail
            go_round
            case rel => simp
            case measure => simp [intOf]
          · skip
            go_wp2_with fail
            refine (implFairOk_any w3 2 _ qs (ovb3.rd qC_len)).mono ?_
            rintro e w4 ⟨rfl, b4⟩
            rw [HF.out]
            have z4 := b4.size
            have B4 := below_step B3 b4 (by omega)
            have ovb4 := ovb3.keep (SameAt.of_below b4)
            clear B3 b4 ovb3
            have hcf := HCF.out
            rcases Int.lt_or_le 0 cc with hp | hp
            · skip
              obtain rfl : f = true := by rw [hcf]; simp; omega
              clear hcf HCF
              go_wp2_with fail
              refine (implCountMeasures_any _ 2 _ [] (litq_rd w4)).mono ?_
              rintro e w5 ⟨rfl, b5⟩
              rw [count_ways.2.1]
              have c5 : Below w4.heap.size w4 w5 := below_step ((Below.refl _ _).alloc (Nat.le_refl _) _) b5 (by simp)
              have z5 := c5.size
              have B5 := below_step B4 c5 (by omega)
              have ovb5 := ovb4.keep (SameAt.of_below c5)
              clear B4 b5 c5 ovb4
              by_cases hz : qs.length = 0
              · have hz0 : ((qs.length : Int)) = 0 := by omega
                go_wp2_with fail
                go_ret
                exact ⟨ret_bool (by simp <;> omega), B5⟩
              · have hz1 : (1 : Int) ≤ (qs.length : Int) := by omega
                have hz4 : (qs.length : Int) ≤ 4 := by omega
                obtain ⟨k, hk⟩ : ∃ k, qs.length = k + 1 := ⟨qs.length - 1, by omega⟩
                obtain ⟨ck, hck⟩ : ∃ ck, countI 2 (qs.take k) = ck := ⟨_, rfl⟩
                have hle : cc ≤ ck := by rw [← hck]; exact HT.out k
                have HCK := Lib.hid hck
                clear hck
                have hk1 : (qs.length : Int) - 1 = (k : Int) := by omega
                have hk2 : (k : Int) ≤ (c : Int) := by omega
                go_wp2_with fail
                refine (implCountMeasures_any w5 2 _ (qs.take k) (GRd.take (ovb5.rd qC_len) (by omega))).mono ?_
                rintro e w6 ⟨rfl, b6⟩
                rw [HCK.out]
                have z6 := b6.size
                have B6 := below_step B5 b6 (by omega)
                have ovb6 := ovb5.keep (SameAt.of_below b6)
                clear B5 b6 ovb5
                go_wp2_with fail
                go_ret
                exact ⟨ret_bool (by simp <;> omega), B6⟩
            · skip
              obtain rfl : f = false := by rw [hcf]; simp; omega
              clear hcf HCF
              go_wp2_with fail
              refine (implCountMeasures_any _ 2 _ [] (litq_rd w4)).mono ?_
              rintro e w5 ⟨rfl, b5⟩
              rw [count_ways.2.1]
              have c5 : Below w4.heap.size w4 w5 := below_step ((Below.refl _ _).alloc (Nat.le_refl _) _) b5 (by simp)
              have z5 := c5.size
              have B5 := below_step B4 c5 (by omega)
              have ovb5 := ovb4.keep (SameAt.of_below c5)
              clear B4 b5 c5 ovb4
              by_cases hz : qs.length = 0
              · have hz0 : ((qs.length : Int)) = 0 := by omega
                go_wp2_with fail
                go_ret
                exact ⟨ret_bool (by simp <;> omega), B5⟩
              · have hz1 : (1 : Int) ≤ (qs.length : Int) := by omega
                have hz4 : (qs.length : Int) ≤ 4 := by omega
                obtain ⟨k, hk⟩ : ∃ k, qs.length = k + 1 := ⟨qs.length - 1, by omega⟩
                obtain ⟨ck, hck⟩ : ∃ ck, countI 2 (qs.take k) = ck := ⟨_, rfl⟩
                have hle : cc ≤ ck := by rw [← hck]; exact HT.out k
                have HCK := Lib.hid hck
                clear hck
                have hk1 : (qs.length : Int) - 1 = (k : Int) := by omega
                have hk2 : (k : Int) ≤ (c : Int) := by omega
                go_wp2_with fail
                refine (implCountMeasures_any w5 2 _ (qs.take k) (GRd.take (ovb5.rd qC_len) (by omega))).mono ?_
                rintro e w6 ⟨rfl, b6⟩
                rw [HCK.out]
                have z6 := b6.size
                have B6 := below_step B5 b6 (by omega)
                have ovb6 := ovb5.keep (SameAt.of_below b6)
                clear B5 b6 ovb5
                go_wp2_with fail
                go_ret
                exact ⟨ret_bool (by simp <;> omega), B6⟩
      · clear hn1 hn2
        go_wp2_with fail
        refine (implCountMeasures_any w1 3 _ qs (ovb1.rd qC_len)).mono ?_
        rintro e w2 ⟨rfl, b2⟩
        rw [HCC.out]
        have z2 := b2.size
        have B2 := below_step B1 b2 (by omega)
        have ovb2 := ovb1.keep (SameAt.of_below b2)
        clear B1 b2 ovb1
        go_wp2_with fail
        refine (specCountMeasures_any w2 3 _ qs (ovb2.rd qC_len)).mono ?_
        rintro e w3 ⟨rfl, b3⟩
        rw [HCC.out]
        have z3 := b3.size
        have B3 := below_step B2 b3 (by omega)
        have ovb3 := ovb2.keep (SameAt.of_below b3)
        clear B2 b3 ovb2
        go_wp2_with fail
        go_loop [6, 7] (fun x i => (x = .int .i64 1 ∧ i = .int .i64 1) ∨ (x = .int .i64 37 ∧ i = .int .i64 2) ∨ (x = .int .i64 703 ∧ i = .int .i64 3)) (fun _ i => 3 - (intOf i).toNat)
        case atStart => simp
        case round =>
          obtain ⟨rfl, rfl⟩ | ⟨rfl, rfl⟩ | ⟨rfl, rfl⟩ := hrel
          · go_wp2_with fail
            go_round
            case rel => simp
            case measure => simp [intOf]
          · go_wp2_with fail
            go_round
            case rel => simp
            case measure => simp [intOf]
          · skip
            go_wp2_with fail
            refine (implFairOk_any w3 3 _ qs (ovb3.rd qC_len)).mono ?_
            rintro e w4 ⟨rfl, b4⟩
            rw [HF.out]
            have z4 := b4.size
            have B4 := below_step B3 b4 (by omega)
            have ovb4 := ovb3.keep (SameAt.of_below b4)
            clear B3 b4 ovb3
            have hcf := HCF.out
            rcases Int.lt_or_le 0 cc with hp | hp
            · skip
              obtain rfl : f = true := by rw [hcf]; simp; omega
              clear hcf HCF
              go_wp2_with fail
              refine (implCountMeasures_any _ 3 _ [] (litq_rd w4)).mono ?_
              rintro e w5 ⟨rfl, b5⟩
              rw [count_ways.2.2.1]
              have c5 : Below w4.heap.size w4 w5 := below_step ((Below.refl _ _).alloc (Nat.le_refl _) _) b5 (by simp)
              have z5 := c5.size
              have B5 := below_step B4 c5 (by omega)
              have ovb5 := ovb4.keep (SameAt.of_below c5)
              clear B4 b5 c5 ovb4
              by_cases hz : qs.length = 0
              · have hz0 : ((qs.length : Int)) = 0 := by omega
                go_wp2_with fail
                go_ret
                exact ⟨ret_bool (by simp <;> omega), B5⟩
              · have hz1 : (1 : Int) ≤ (qs.length : Int) := by omega
                have hz4 : (qs.length : Int) ≤ 4 := by omega
                obtain ⟨k, hk⟩ : ∃ k, qs.length = k + 1 := ⟨qs.length - 1, by omega⟩
                obtain ⟨ck, hck⟩ : ∃ ck, countI 3 (qs.take k) = ck := ⟨_, rfl⟩
                have hle : cc ≤ ck := by rw [← hck]; exact HT.out k
                have HCK := Lib.hid hck
                clear hck
                have hk1 : (qs.length : Int) - 1 = (k : Int) := by omega
                have hk2 : (k : Int) ≤ (c : Int) := by omega
                go_wp2_with fail
                refine (implCountMeasures_any w5 3 _ (qs.take k) (GRd.take (ovb5.rd qC_len) (by omega))).mono ?_
                rintro e w6 ⟨rfl, b6⟩
                rw [HCK.out]
                have z6 := b6.size
                have B6 := below_step B5 b6 (by omega)
                have ovb6 := ovb5.keep (SameAt.of_below b6)
                clear B5 b6 ovb5
                go_wp2_with fail
                go_ret
                exact ⟨ret_bool (by simp <;> omega), B6⟩
            · skip
              obtain rfl : f = false := by rw [hcf]; simp; omega
              clear hcf HCF
              go_wp2_with fail
              refine (implCountMeasures_any _ 3 _ [] (litq_rd w4)).mono ?_
              rintro e w5 ⟨rfl, b5⟩
              rw [count_ways.2.2.1]
              have c5 : Below w4.heap.size w4 w5 := below_step ((Below.refl _ _).alloc (Nat.le_refl _) _) b5 (by simp)
              have z5 := c5.size
              have B5 := below_step B4 c5 (by omega)
              have ovb5 := ovb4.keep (SameAt.of_below c5)
              clear B4 b5 c5 ovb4
              by_cases hz : qs.length = 0
              · have hz0 : ((qs.length : Int)) = 0 := by omega
                go_wp2_with fail
                go_ret
                exact ⟨ret_bool (by simp <;> omega), B5⟩
              · have hz1 : (1 : Int) ≤ (qs.length : Int) := by omega
                have hz4 : (qs.length : Int) ≤ 4 := by omega
                obtain ⟨k, hk⟩ : ∃ k, qs.length = k + 1 := ⟨qs.length - 1, by omega⟩
                obtain ⟨ck, hck⟩ : ∃ ck, countI 3 (qs.take k) = ck := ⟨_, rfl⟩
                have hle : cc ≤ ck := by rw [← hck]; exact HT.out k
                have HCK := Lib.hid hck
                clear hck
                have hk1 : (qs.length : Int) - 1 = (k : Int) := by omega
                have hk2 : (k : Int) ≤ (c : Int) := by omega
                go_wp2_with fail
                refine (implCountMeasures_any w5 3 _ (qs.take k) (GRd.take (ovb5.rd qC_len) (by omega))).mono ?_
                rintro e w6 ⟨rfl, b6⟩
                rw [HCK.out]
                have z6 := b6.size
                have B6 := below_step B5 b6 (by omega)
                have ovb6 := ovb5.keep (SameAt.of_below b6)
                clear B5 b6 ovb5
                go_wp2_with fail
                go_ret
                exact ⟨ret_bool (by simp <;> omega), B6⟩
      · clear hn1 hn2
        go_wp2_with fail
        refine (implCountMeasures_any w1 4 _ qs (ovb1.rd qC_len)).mono ?_
        rintro e w2 ⟨rfl, b2⟩
        rw [HCC.out]
        have z2 := b2.size
        have B2 := below_step B1 b2 (by omega)
        have ovb2 := ovb1.keep (SameAt.of_below b2)
        clear B1 b2 ovb1
        go_wp2_with fail
        refine (specCountMeasures_any w2 4 _ qs (ovb2.rd qC_len)).mono ?_
        rintro e w3 ⟨rfl, b3⟩
        rw [HCC.out]
        have z3 := b3.size
        have B3 := below_step B2 b3 (by omega)
        have ovb3 := ovb2.keep (SameAt.of_below b3)
        clear B2 b3 ovb2
        go_wp2_with fail
        go_loop [6, 7] (fun x i => (x = .int .i64 1 ∧ i = .int .i64 1) ∨ (x = .int .i64 37 ∧ i = .int .i64 2) ∨ (x = .int .i64 703 ∧ i = .int .i64 3) ∨ (x = .int .i64 9139 ∧ i = .int .i64 4)) (fun _ i => 4 - (intOf i).toNat)
        case atStart => simp
        case round =>
          obtain ⟨rfl, rfl⟩ | ⟨rfl, rfl⟩ | ⟨rfl, rfl⟩ | ⟨rfl, rfl⟩ := hrel
          · go_wp2_with fail
            go_round
            case rel => simp
            case measure => simp [intOf]
          · go_wp2_with fail
            go_round
            case rel => simp
            case measure => simp [intOf]
          · go_wp2_with fail
            go_round
            case rel => simp
            case measure => simp [intOf]
          · skip
            go_wp2_with fail
            refine (implFairOk_any w3 4 _ qs (ovb3.rd qC_len)).mono ?_
            rintro e w4 ⟨rfl, b4⟩
            rw [HF.out]
            have z4 := b4.size
            have B4 := below_step B3 b4 (by omega)
            have ovb4 := ovb3.keep (SameAt.of_below b4)
            clear B3 b4 ovb3
            have hcf := HCF.out
            rcases Int.lt_or_le 0 cc with hp | hp
            · skip
              obtain rfl : f = true := by rw [hcf]; simp; omega
              clear hcf HCF
              go_wp2_with fail
              refine (implCountMeasures_any _ 4 _ [] (litq_rd w4)).mono ?_
              rintro e w5 ⟨rfl, b5⟩
              rw [count_ways.2.2.2]
              have c5 : Below w4.heap.size w4 w5 := below_step ((Below.refl _ _).alloc (Nat.le_refl _) _) b5 (by simp)
              have z5 := c5.size
              have B5 := below_step B4 c5 (by omega)
              have ovb5 := ovb4.keep (SameAt.of_below c5)
              clear B4 b5 c5 ovb4
              by_cases hz : qs.length = 0
              · have hz0 : ((qs.length : Int)) = 0 := by omega
                go_wp2_with fail
                go_ret
                exact ⟨ret_bool (by simp <;> omega), B5⟩
              · have hz1 : (1 : Int) ≤ (qs.length : Int) := by omega
                have hz4 : (qs.length : Int) ≤ 4 := by omega
                obtain ⟨k, hk⟩ : ∃ k, qs.length = k + 1 := ⟨qs.length - 1, by omega⟩
                obtain ⟨ck, hck⟩ : ∃ ck, countI 4 (qs.take k) = ck := ⟨_, rfl⟩
                have hle : cc ≤ ck := by rw [← hck]; exact HT.out k
                have HCK := Lib.hid hck
                clear hck
                have hk1 : (qs.length : Int) - 1 = (k : Int) := by omega
                have hk2 : (k : Int) ≤ (c : Int) := by omega
                go_wp2_with fail
                refine (implCountMeasures_any w5 4 _ (qs.take k) (GRd.take (ovb5.rd qC_len) (by omega))).mono ?_
                rintro e w6 ⟨rfl, b6⟩
                rw [HCK.out]
                have z6 := b6.size
                have B6 := below_step B5 b6 (by omega)
                have ovb6 := ovb5.keep (SameAt.of_below b6)
                clear B5 b6 ovb5
                go_wp2_with fail
                go_ret
                exact ⟨ret_bool (by simp <;> omega), B6⟩
            · skip
              obtain rfl : f = false := by rw [hcf]; simp; omega
              clear hcf HCF
              go_wp2_with fail
              refine (implCountMeasures_any _ 4 _ [] (litq_rd w4)).mono ?_
              rintro e w5 ⟨rfl, b5⟩
              rw [count_ways.2.2.2]
              have c5 : Below w4.heap.size w4 w5 := below_step ((Below.refl _ _).alloc (Nat.le_refl _) _) b5 (by simp)
              have z5 := c5.size
              have B5 := below_step B4 c5 (by omega)
              have ovb5 := ovb4.keep (SameAt.of_below c5)
              clear B4 b5 c5 ovb4
              by_cases hz : qs.length = 0
              · have hz0 : ((qs.length : Int)) = 0 := by omega
                go_wp2_with fail
                go_ret
                exact ⟨ret_bool (by simp <;> omega), B5⟩
              · have hz1 : (1 : Int) ≤ (qs.length : Int) := by omega
                have hz4 : (qs.length : Int) ≤ 4 := by omega
                obtain ⟨k, hk⟩ : ∃ k, qs.length = k + 1 := ⟨qs.length - 1, by omega⟩
                obtain ⟨ck, hck⟩ : ∃ ck, countI 4 (qs.take k) = ck := ⟨_, rfl⟩
                have hle : cc ≤ ck := by rw [← hck]; exact HT.out k
                have HCK := Lib.hid hck
                clear hck
                have hk1 : (qs.length : Int) - 1 = (k : Int) := by omega
                have hk2 : (k : Int) ≤ (c : Int) := by omega
                go_wp2_with fail
                refine (implCountMeasures_any w5 4 _ (qs.take k) (GRd.take (ovb5.rd qC_len) (by omega))).mono ?_
                rintro e w6 ⟨rfl, b6⟩
                rw [HCK.out]
                have z6 := b6.size
                have B6 := below_step B5 b6 (by omega)
                have ovb6 := ovb5.keep (SameAt.of_below b6)
                clear B5 b6 ovb5
                go_wp2_with fail
                go_ret
                exact ⟨ret_bool (by simp <;> omega), B6⟩
    · have HN := Lib.hid (count_no hb)
      clear hb
      go_wp2_with fail
      refine (implCountMeasures_any w1 n _ qs (ovb1.rd qC_len)).mono ?_
      rintro e w2 ⟨rfl, b2⟩
      rw [HN.out]
      have z2 := b2.size
      have B2 := below_step B1 b2 (by omega)
      have ovb2 := ovb1.keep (SameAt.of_below b2)
      clear B1 b2 ovb1
      go_wp2_with fail
      refine (specCountMeasures_any w2 n _ qs (ovb2.rd qC_len)).mono ?_
      rintro e w3 ⟨rfl, b3⟩
      rw [HN.out]
      have z3 := b3.size
      have B3 := below_step B2 b3 (by omega)
      have ovb3 := ovb2.keep (SameAt.of_below b3)
      clear B2 b3 ovb2
      go_wp2_with fail
      refine (alive_any _).mono ?_
      rintro e w' ⟨rfl, rfl⟩
      go_wp2_with fail
      go_ret
      exact ⟨rfl, B3⟩

end Go.Proofs.Ytfjmlbcmidichaa
