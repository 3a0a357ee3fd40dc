/- The walks of the laws of MixedMeasure, CountMeasures. Conditions: rows of bytes that came in. -/
import Derived.Test.YtnkgnhnggjoglaaDo
import Derived.Test.YtnkgnhnggjoglaaMi
import Derived.Test.YtnkgnhnggjoglaaNj
import Derived.Test.YtnkgnhnggjoglaaEv2
namespace Go.Proofs.Ytnkgnhnggjoglaa
open Go.RowKit
set_option linter.unusedVariables false

theorem rowc_below {k : IntKind} {w w' : World} {a : Option Addr} {len cap : Nat} {zs : List Int} (h : IsRowC k w a len cap zs) (b : Below w.heap.size w w') : IsRowC k w' a len cap zs := by
  rcases h with ⟨rfl, rfl, rfl, rfl⟩ | ⟨x, rfl, hl, hm, hz, hcell, hwz⟩
  · exact .inl ⟨rfl, rfl, rfl, rfl⟩
  · refine .inr ⟨x, rfl, hl, hm, hz, fun i hi => ?_, hwz⟩
    have hc := hcell i hi
    have hlt := World.block_lt_of_cell? w _ hc
    exact (World.cell?_of_block (b.block _ hlt)).trans hc

theorem grI_on {m : List Int} {n : Nat} (h : meaB m = true) (hn : m.length = n) {e : Int} (e0 : 0 ≤ e) (e1 : e < 2 ^ n) : grI m e = onI m e := by
  obtain ⟨-, -, h3, h4⟩ := mea_parts h
  rw [hn] at h3 h4
  have hev : evB (m.length : Int) e = true := by
    rw [evB_iff, hn]
    have : allI (n : Int) = 2 ^ n - 1 := by
      obtain rfl | rfl | rfl | rfl : n = 1 ∨ n = 2 ∨ n = 3 ∨ n = 4 := by omega
      all_goals decide
    omega
  rw [grI, if_pos ⟨h, hev⟩]

theorem mixB_parts {a b : List Int} (h : mixB a b = true) : meaB a = true ∧ meaB b = true ∧ a.length = b.length := by
  rw [mixB, Bool.and_eq_true, Bool.and_eq_true, Bool.and_eq_true, decide_eq_true_eq] at h
  exact ⟨h.1.1.1, h.1.1.2, h.1.2⟩

theorem mix_gr {a b : List Int} {n : Nat} (h : mixB a b = true) (hn : a.length = n) {e : Int} (e0 : 0 ≤ e) (e1 : e < 2 ^ n) :
    2 * grI (mixL a b) e = grI a e + grI b e ∧ 0 ≤ grI (mixL a b) e ∧ grI (mixL a b) e ≤ 36 ∧ 0 ≤ grI a e ∧ grI a e ≤ 36 ∧ 0 ≤ grI b e ∧ grI b e ≤ 36 := by
  obtain ⟨h1, h2, h3⟩ := mixB_parts h
  obtain ⟨k1, k2, k3⟩ := mix_mea h
  rw [grI_on k1 (k2.trans hn) e0 e1, grI_on h1 hn e0 e1, grI_on h2 (h3.symm.trans hn) e0 e1]
  obtain ⟨p1, p2, -, -⟩ := mea_parts k1
  obtain ⟨q1, q2, -, -⟩ := mea_parts h1
  obtain ⟨r1, r2, -, -⟩ := mea_parts h2
  have u1 := onI_bound p1 e
  have u2 := onI_bound q1 e
  have u3 := onI_bound r1 e
  exact ⟨k3 e, by omega, by omega, by omega, by omega, by omega, by omega⟩

theorem mix_fitB {a b : List Int} {qs : List Qt} (h : mixB a b = true) (ha : fitB a qs = true) (hb : fitB b qs = true) : fitB (mixL a b) qs = true := by
  obtain ⟨k1, k2, -⟩ := mix_mea h
  rw [fitB, Bool.and_eq_true, Bool.and_eq_true] at ha hb
  rw [fitB, k1, k2, ha.2.1, mix_fit h ha.2.2 hb.2.2]
  rfl

set_option maxRecDepth 100000 in
set_option maxHeartbeats 8000000 in
theorem FnMixedMeasure_walk (a0 : Option Addr) (len0 cap0 : Nat) (z0 : List Int) (a1 : Option Addr) (len1 cap1 : Nat) (z1 : List Int) (w : World) (h0 : IsRowC .u8 w a0 len0 cap0 z0) (h1 : IsRowC .u8 w a1 len1 cap1 z1) :
    Calls Try.prog 16 #[.slice a0 len0 cap0, .slice a1 len1 cap1] w fun e w' => e = .returned (.bool true) ∧ Below w.heap.size w w' := by
  by_cases hlen : 1048576 < len0
  · clear h0 h1
    have hlen2 : (1048576 : Int) < (len0 : Int) := by omega
    go_enter Try.func16, Try.ntmps16
    go_wp2
    go_ret
    exact ⟨rfl, Below.refl _ _⟩
  have hlen' : (len0 : Int) ≤ 1048576 := by omega
  by_cases hlen1 : 1048576 < len1
  · clear h0 h1
    have hlen2 : (1048576 : Int) < (len1 : Int) := by omega
    go_enter Try.func16, Try.ntmps16
    go_wp2
    go_ret
    exact ⟨rfl, Below.refl _ _⟩
  · have hlen1' : (len1 : Int) ≤ 1048576 := by omega
    clear hlen hlen1
    go_enter Try.func16, Try.ntmps16
    go_wp2_with fail
    refine (drawMixedMeasure_any _ _ _ _ _ h0).mono ?_
    rintro e w1 ⟨va, vb, xs, ys, rfl, ova1, ovb1, hl4, hl5, B1, hne⟩
    have hc1 := Lib.hid (rowc_below h1 B1)
    clear h0 h1 hne
    have zz1 := B1.size
    have hva : ∀ g, va.ownBlock = some g → g < w1.heap.size := fun g hg => (ova1.ge g hg).2
    have hvb : ∀ g, vb.ownBlock = some g → g < w1.heap.size := fun g hg => (ovb1.ge g hg).2
    rcases Bool.eq_false_or_eq_true (mixB xs ys) with hb | hb
    · have HB := Lib.hid hb
      have HR := Lib.hid (mix_yes hb)
      have HME := Lib.hid (mix_mea hb).1
      have HFT : Hid (∀ qs, fitB xs qs = true → fitB ys qs = true → fitB (mixL xs ys) qs = true) := Lib.hid (fun qs => mix_fitB hb)
      have hpos : 1 ≤ xs.length ∧ xs.length ≤ 4 := (mea_parts (mixB_parts hb).1).2.2
      obtain ⟨n, hn⟩ : ∃ n, xs.length = n := ⟨_, rfl⟩
      have HGR : Hid (∀ e : Int, 0 ≤ e → e < 2 ^ n → 2 * grI (mixL xs ys) e = grI xs e + grI ys e ∧ 0 ≤ grI (mixL xs ys) e ∧ grI (mixL xs ys) e ≤ 36 ∧ 0 ≤ grI xs e ∧ grI xs e ≤ 36 ∧ 0 ≤ grI ys e ∧ grI ys e ≤ 36) := Lib.hid (fun e e0 e1 => mix_gr hb hn e0 e1)
      obtain ⟨A, c, rfl, hlc, hm, -⟩ := id ova1.rd
      rw [hn] at hpos ova1 hlc ⊢
      have HN := Lib.hid hn
      clear hb hn hva hl4 hl5
      have hva : ∀ g, (Value.slice A n c).ownBlock = some g → g < w1.heap.size := fun g hg => (ova1.ge g hg).2
      obtain rfl | rfl | rfl | rfl : n = 1 ∨ n = 2 ∨ n = 3 ∨ n = 4 := by omega
      · clear hpos
        have C1 : Below w1.heap.size w1 w1 := Below.refl _ _
        go_wp2_with fail
        refine (implMixedMeasure_any w1 _ vb xs ys (ova1.rd) (ovb1.rd)).mono ?_
        rintro e w2 ⟨vx, rfl, ovx2, b2⟩
        rw [HB.out]
        rw [HR.out] at ovx2
        have z2 := b2.size
        have hvx : ∀ g, vx.ownBlock = some g → g < w2.heap.size := fun g hg => (ovx2.ge g hg).2
        have B2 := below_step B1 b2 (by omega)
        have ova2 := ova1.keep (SameAt.of_below b2)
        have ovb2 := ovb1.keep (SameAt.of_below b2)
        have C2 := below_step C1 b2 (by omega)
        clear C1
        clear B1 b2 ova1 ovb1
        go_wp2_with fail
        refine (specMixedMeasure_any w2 _ vb xs ys (ova2.rd) (ovb2.rd)).mono ?_
        rintro e w3 ⟨vy, rfl, ovy3, b3⟩
        rw [HB.out]
        rw [HR.out] at ovy3
        have z3 := b3.size
        have hvy : ∀ g, vy.ownBlock = some g → g < w3.heap.size := fun g hg => (ovy3.ge g hg).2
        have B3 := below_step B2 b3 (by omega)
        have ova3 := ova2.keep (SameAt.of_below b3)
        have ovb3 := ovb2.keep (SameAt.of_below b3)
        have ovx3 := ovx2.keep (SameAt.of_below b3)
        have C3 := below_step C2 b3 (by omega)
        clear C2
        clear B2 b3 ova2 ovb2 ovx2
        go_wp2_with fail
        refine (sameInts_any w3 vx vy _ _ (ovx3.rd) (ovy3.rd)).mono ?_
        rintro e w' ⟨q4, rfl, rfl⟩
        rw [decide_self]
        have z4 : w3.heap.size ≤ (w3.drewN q4).heap.size := Nat.le_refl _
        have B4 : Below w.heap.size w (w3.drewN q4) := below_drewN B3 q4
        have ova4 : IOwn (w3.drewN q4) _ _ _ := ova3
        have ovb4 : IOwn (w3.drewN q4) _ vb _ := ovb3
        have ovx4 : IOwn (w3.drewN q4) _ vx _ := ovx3
        have ovy4 : IOwn (w3.drewN q4) _ vy _ := ovy3
        have C4 : Below w1.heap.size w1 (w3.drewN q4) := below_drewN C3 q4
        clear C3
        clear B3 ova3 ovb3 ovx3 ovy3
        generalize w3.drewN q4 = w4 at *
        clear ovy4 hvy
        go_wp2_with fail
        refine (drawFairOk_any w4 _ _ _ _ (rowc_below hc1.out C4)).mono ?_
        rintro e w5 ⟨xq5, vq, qs, rfl, ovq5, hl6, b5⟩
        have z5 := b5.size
        have B5 := below_step B4 b5 (by omega)
        have ova5 := ova4.keep (SameAt.of_below b5)
        have ovb5 := ovb4.keep (SameAt.of_below b5)
        have ovx5 := ovx4.keep (SameAt.of_below b5)
        clear B4 b5 ova4 ovb4 ovx4
        clear C4 hc1
        have HVA := Lib.hid ova5
        have HVB := Lib.hid ovb5
        have HVX := Lib.hid ovx5
        have HVQ := Lib.hid ovq5
        have HBJ := Lib.hid B5
        have HZJ : Hid (w.heap.size ≤ w5.heap.size) := Lib.hid B5.size
        clear ova5 ovb5 ovx5 ovq5 B5
        go_wp2_with fail
        go_loopw [13] (fun i wr => ∃ k : Nat, i = .int .i64 (k : Int) ∧ k ≤ 2 ∧ Hid (Below w5.heap.size w5 wr)) (fun i _ => 2 - (intOf i).toNat)
        case atStart => exact ⟨0, rfl, Nat.zero_le _, Lib.hid (Below.refl _ _)⟩
        case round =>
          obtain ⟨k, rfl, hk, HW⟩ := hrel
          by_cases hlt : k < 2
          · have hlt' : (k : Int) < 2 := by omega
            obtain ⟨e1, e2, e3, e4, e5, e6, e7⟩ := HGR.out (k : Int) (by omega) (by simpa using hlt')
            obtain ⟨t1, ht1⟩ : ∃ t, grI (mixL xs ys) (k : Int) = t := ⟨_, rfl⟩
            obtain ⟨t2, ht2⟩ : ∃ t, grI xs (k : Int) = t := ⟨_, rfl⟩
            obtain ⟨t3, ht3⟩ : ∃ t, grI ys (k : Int) = t := ⟨_, rfl⟩
            rw [ht1, ht2, ht3] at e1
            rw [ht1] at e2 e3
            rw [ht2] at e4 e5
            rw [ht3] at e6 e7
            have HT1 := Lib.hid ht1
            have HT2 := Lib.hid ht2
            have HT3 := Lib.hid ht3
            have hne2 : (2 * t1 != t2 + t3) = false := by rw [e1]; simp
            clear ht1 ht2 ht3 e1
            go_wp2_with fail
            refine (implGrainsOn_any wr vx (mixL xs ys) k (HVX.out.keep (SameAt.of_below HW.out)).rd).mono ?_
            rintro e wa ⟨rfl, ba⟩
            rw [HT1.out]
            have HA := Lib.hid (below_step HW.out ba HW.out.size)
            clear ba
            go_wp2_with fail
            refine (implGrainsOn_any wa _ xs k (HVA.out.keep (SameAt.of_below HA.out)).rd).mono ?_
            rintro e wb ⟨rfl, bb⟩
            rw [HT2.out]
            have HBB := Lib.hid (below_step HA.out bb HA.out.size)
            clear bb
            go_wp2_with fail
            refine (implGrainsOn_any wb vb ys k (HVB.out.keep (SameAt.of_below HBB.out)).rd).mono ?_
            rintro e wc ⟨rfl, bc⟩
            rw [HT3.out]
            have HC := Lib.hid (below_step HBB.out bc HBB.out.size)
            clear bc
            go_wp2_with fail
            go_roundw
            case rel => exact ⟨k + 1, by go_num, by omega, HC⟩
            case measure => simp [intOf]; omega
          · have hge : (2 : Int) ≤ (k : Int) := by omega
            go_wp2_with fail
            refine (implMeasureOk_any wr vx (mixL xs ys) (HVX.out.keep (SameAt.of_below HW.out)).rd).mono ?_
            rintro e w' ⟨rfl, rfl⟩
            rw [HME.out]
            obtain ⟨f1, hf1⟩ : ∃ f, fitB xs qs = f := ⟨_, rfl⟩
            have HF1 := Lib.hid hf1
            obtain ⟨f2, hf2⟩ : ∃ f, fitB ys qs = f := ⟨_, rfl⟩
            have HF2 := Lib.hid hf2
            clear hf1 hf2
            go_wp2_with fail
            refine (implFitsOk_any wr _ vq xs qs (HVA.out.keep (SameAt.of_below HW.out)).rd (GOwn.rd qC_len (HVQ.out.keep (SameAt.of_below HW.out)))).mono ?_
            rintro e wa ⟨rfl, ba⟩
            rw [HF1.out]
            have HA := Lib.hid (below_step HW.out ba HW.out.size)
            clear ba
            cases f1
            · go_wp2_with fail
              go_ret
              exact ⟨rfl, below_step HBJ.out HA.out HZJ.out⟩
            · go_wp2_with fail
              refine (implFitsOk_any wa vb vq ys qs (HVB.out.keep (SameAt.of_below HA.out)).rd (GOwn.rd qC_len (HVQ.out.keep (SameAt.of_below HA.out)))).mono ?_
              rintro e wb ⟨rfl, bb⟩
              rw [HF2.out]
              have HBB := Lib.hid (below_step HA.out bb HA.out.size)
              clear bb
              cases f2
              · go_wp2_with fail
                go_ret
                exact ⟨rfl, below_step HBJ.out HBB.out HZJ.out⟩
              · have HF3 := Lib.hid (HFT.out qs HF1.out HF2.out)
                go_wp2_with fail
                refine (implFitsOk_any wb vx vq (mixL xs ys) qs (HVX.out.keep (SameAt.of_below HBB.out)).rd (GOwn.rd qC_len (HVQ.out.keep (SameAt.of_below HBB.out)))).mono ?_
                rintro e wc ⟨rfl, bc⟩
                rw [HF3.out]
                have HC := Lib.hid (below_step HBB.out bc HBB.out.size)
                clear bc
                go_wp2_with fail
                go_ret
                exact ⟨rfl, below_step HBJ.out HC.out HZJ.out⟩
      · clear hpos
        have C1 : Below w1.heap.size w1 w1 := Below.refl _ _
        go_wp2_with fail
        refine (implMixedMeasure_any w1 _ vb xs ys (ova1.rd) (ovb1.rd)).mono ?_
        rintro e w2 ⟨vx, rfl, ovx2, b2⟩
        rw [HB.out]
        rw [HR.out] at ovx2
        have z2 := b2.size
        have hvx : ∀ g, vx.ownBlock = some g → g < w2.heap.size := fun g hg => (ovx2.ge g hg).2
        have B2 := below_step B1 b2 (by omega)
        have ova2 := ova1.keep (SameAt.of_below b2)
        have ovb2 := ovb1.keep (SameAt.of_below b2)
        have C2 := below_step C1 b2 (by omega)
        clear C1
        clear B1 b2 ova1 ovb1
        go_wp2_with fail
        refine (specMixedMeasure_any w2 _ vb xs ys (ova2.rd) (ovb2.rd)).mono ?_
        rintro e w3 ⟨vy, rfl, ovy3, b3⟩
        rw [HB.out]
        rw [HR.out] at ovy3
        have z3 := b3.size
        have hvy : ∀ g, vy.ownBlock = some g → g < w3.heap.size := fun g hg => (ovy3.ge g hg).2
        have B3 := below_step B2 b3 (by omega)
        have ova3 := ova2.keep (SameAt.of_below b3)
        have ovb3 := ovb2.keep (SameAt.of_below b3)
        have ovx3 := ovx2.keep (SameAt.of_below b3)
        have C3 := below_step C2 b3 (by omega)
        clear C2
        clear B2 b3 ova2 ovb2 ovx2
        go_wp2_with fail
        refine (sameInts_any w3 vx vy _ _ (ovx3.rd) (ovy3.rd)).mono ?_
        rintro e w' ⟨q4, rfl, rfl⟩
        rw [decide_self]
        have z4 : w3.heap.size ≤ (w3.drewN q4).heap.size := Nat.le_refl _
        have B4 : Below w.heap.size w (w3.drewN q4) := below_drewN B3 q4
        have ova4 : IOwn (w3.drewN q4) _ _ _ := ova3
        have ovb4 : IOwn (w3.drewN q4) _ vb _ := ovb3
        have ovx4 : IOwn (w3.drewN q4) _ vx _ := ovx3
        have ovy4 : IOwn (w3.drewN q4) _ vy _ := ovy3
        have C4 : Below w1.heap.size w1 (w3.drewN q4) := below_drewN C3 q4
        clear C3
        clear B3 ova3 ovb3 ovx3 ovy3
        generalize w3.drewN q4 = w4 at *
        clear ovy4 hvy
        go_wp2_with fail
        refine (drawFairOk_any w4 _ _ _ _ (rowc_below hc1.out C4)).mono ?_
        rintro e w5 ⟨xq5, vq, qs, rfl, ovq5, hl6, b5⟩
        have z5 := b5.size
        have B5 := below_step B4 b5 (by omega)
        have ova5 := ova4.keep (SameAt.of_below b5)
        have ovb5 := ovb4.keep (SameAt.of_below b5)
        have ovx5 := ovx4.keep (SameAt.of_below b5)
        clear B4 b5 ova4 ovb4 ovx4
        clear C4 hc1
        have HVA := Lib.hid ova5
        have HVB := Lib.hid ovb5
        have HVX := Lib.hid ovx5
        have HVQ := Lib.hid ovq5
        have HBJ := Lib.hid B5
        have HZJ : Hid (w.heap.size ≤ w5.heap.size) := Lib.hid B5.size
        clear ova5 ovb5 ovx5 ovq5 B5
        go_wp2_with fail
        go_loopw [13] (fun i wr => ∃ k : Nat, i = .int .i64 (k : Int) ∧ k ≤ 4 ∧ Hid (Below w5.heap.size w5 wr)) (fun i _ => 4 - (intOf i).toNat)
        case atStart => exact ⟨0, rfl, Nat.zero_le _, Lib.hid (Below.refl _ _)⟩
        case round =>
          obtain ⟨k, rfl, hk, HW⟩ := hrel
          by_cases hlt : k < 4
          · have hlt' : (k : Int) < 4 := by omega
            obtain ⟨e1, e2, e3, e4, e5, e6, e7⟩ := HGR.out (k : Int) (by omega) (by simpa using hlt')
            obtain ⟨t1, ht1⟩ : ∃ t, grI (mixL xs ys) (k : Int) = t := ⟨_, rfl⟩
            obtain ⟨t2, ht2⟩ : ∃ t, grI xs (k : Int) = t := ⟨_, rfl⟩
            obtain ⟨t3, ht3⟩ : ∃ t, grI ys (k : Int) = t := ⟨_, rfl⟩
            rw [ht1, ht2, ht3] at e1
            rw [ht1] at e2 e3
            rw [ht2] at e4 e5
            rw [ht3] at e6 e7
            have HT1 := Lib.hid ht1
            have HT2 := Lib.hid ht2
            have HT3 := Lib.hid ht3
            have hne2 : (2 * t1 != t2 + t3) = false := by rw [e1]; simp
            clear ht1 ht2 ht3 e1
            go_wp2_with fail
            refine (implGrainsOn_any wr vx (mixL xs ys) k (HVX.out.keep (SameAt.of_below HW.out)).rd).mono ?_
            rintro e wa ⟨rfl, ba⟩
            rw [HT1.out]
            have HA := Lib.hid (below_step HW.out ba HW.out.size)
            clear ba
            go_wp2_with fail
            refine (implGrainsOn_any wa _ xs k (HVA.out.keep (SameAt.of_below HA.out)).rd).mono ?_
            rintro e wb ⟨rfl, bb⟩
            rw [HT2.out]
            have HBB := Lib.hid (below_step HA.out bb HA.out.size)
            clear bb
            go_wp2_with fail
            refine (implGrainsOn_any wb vb ys k (HVB.out.keep (SameAt.of_below HBB.out)).rd).mono ?_
            rintro e wc ⟨rfl, bc⟩
            rw [HT3.out]
            have HC := Lib.hid (below_step HBB.out bc HBB.out.size)
            clear bc
            go_wp2_with fail
            go_roundw
            case rel => exact ⟨k + 1, by go_num, by omega, HC⟩
            case measure => simp [intOf]; omega
          · have hge : (4 : Int) ≤ (k : Int) := by omega
            go_wp2_with fail
            refine (implMeasureOk_any wr vx (mixL xs ys) (HVX.out.keep (SameAt.of_below HW.out)).rd).mono ?_
            rintro e w' ⟨rfl, rfl⟩
            rw [HME.out]
            obtain ⟨f1, hf1⟩ : ∃ f, fitB xs qs = f := ⟨_, rfl⟩
            have HF1 := Lib.hid hf1
            obtain ⟨f2, hf2⟩ : ∃ f, fitB ys qs = f := ⟨_, rfl⟩
            have HF2 := Lib.hid hf2
            clear hf1 hf2
            go_wp2_with fail
            refine (implFitsOk_any wr _ vq xs qs (HVA.out.keep (SameAt.of_below HW.out)).rd (GOwn.rd qC_len (HVQ.out.keep (SameAt.of_below HW.out)))).mono ?_
            rintro e wa ⟨rfl, ba⟩
            rw [HF1.out]
            have HA := Lib.hid (below_step HW.out ba HW.out.size)
            clear ba
            cases f1
            · go_wp2_with fail
              go_ret
              exact ⟨rfl, below_step HBJ.out HA.out HZJ.out⟩
            · go_wp2_with fail
              refine (implFitsOk_any wa vb vq ys qs (HVB.out.keep (SameAt.of_below HA.out)).rd (GOwn.rd qC_len (HVQ.out.keep (SameAt.of_below HA.out)))).mono ?_
              rintro e wb ⟨rfl, bb⟩
              rw [HF2.out]
              have HBB := Lib.hid (below_step HA.out bb HA.out.size)
              clear bb
              cases f2
              · go_wp2_with fail
                go_ret
                exact ⟨rfl, below_step HBJ.out HBB.out HZJ.out⟩
              · have HF3 := Lib.hid (HFT.out qs HF1.out HF2.out)
                go_wp2_with fail
                refine (implFitsOk_any wb vx vq (mixL xs ys) qs (HVX.out.keep (SameAt.of_below HBB.out)).rd (GOwn.rd qC_len (HVQ.out.keep (SameAt.of_below HBB.out)))).mono ?_
                rintro e wc ⟨rfl, bc⟩
                rw [HF3.out]
                have HC := Lib.hid (below_step HBB.out bc HBB.out.size)
                clear bc
                go_wp2_with fail
                go_ret
                exact ⟨rfl, below_step HBJ.out HC.out HZJ.out⟩
      · clear hpos
        have C1 : Below w1.heap.size w1 w1 := Below.refl _ _
        go_wp2_with fail
        refine (implMixedMeasure_any w1 _ vb xs ys (ova1.rd) (ovb1.rd)).mono ?_
        rintro e w2 ⟨vx, rfl, ovx2, b2⟩
        rw [HB.out]
        rw [HR.out] at ovx2
        have z2 := b2.size
        have hvx : ∀ g, vx.ownBlock = some g → g < w2.heap.size := fun g hg => (ovx2.ge g hg).2
        have B2 := below_step B1 b2 (by omega)
        have ova2 := ova1.keep (SameAt.of_below b2)
        have ovb2 := ovb1.keep (SameAt.of_below b2)
        have C2 := below_step C1 b2 (by omega)
        clear C1
        clear B1 b2 ova1 ovb1
        go_wp2_with fail
        refine (specMixedMeasure_any w2 _ vb xs ys (ova2.rd) (ovb2.rd)).mono ?_
        rintro e w3 ⟨vy, rfl, ovy3, b3⟩
        rw [HB.out]
        rw [HR.out] at ovy3
        have z3 := b3.size
        have hvy : ∀ g, vy.ownBlock = some g → g < w3.heap.size := fun g hg => (ovy3.ge g hg).2
        have B3 := below_step B2 b3 (by omega)
        have ova3 := ova2.keep (SameAt.of_below b3)
        have ovb3 := ovb2.keep (SameAt.of_below b3)
        have ovx3 := ovx2.keep (SameAt.of_below b3)
        have C3 := below_step C2 b3 (by omega)
        clear C2
        clear B2 b3 ova2 ovb2 ovx2
        go_wp2_with fail
        refine (sameInts_any w3 vx vy _ _ (ovx3.rd) (ovy3.rd)).mono ?_
        rintro e w' ⟨q4, rfl, rfl⟩
        rw [decide_self]
        have z4 : w3.heap.size ≤ (w3.drewN q4).heap.size := Nat.le_refl _
        have B4 : Below w.heap.size w (w3.drewN q4) := below_drewN B3 q4
        have ova4 : IOwn (w3.drewN q4) _ _ _ := ova3
        have ovb4 : IOwn (w3.drewN q4) _ vb _ := ovb3
        have ovx4 : IOwn (w3.drewN q4) _ vx _ := ovx3
        have ovy4 : IOwn (w3.drewN q4) _ vy _ := ovy3
        have C4 : Below w1.heap.size w1 (w3.drewN q4) := below_drewN C3 q4
        clear C3
        clear B3 ova3 ovb3 ovx3 ovy3
        generalize w3.drewN q4 = w4 at *
        clear ovy4 hvy
        go_wp2_with fail
        refine (drawFairOk_any w4 _ _ _ _ (rowc_below hc1.out C4)).mono ?_
        rintro e w5 ⟨xq5, vq, qs, rfl, ovq5, hl6, b5⟩
        have z5 := b5.size
        have B5 := below_step B4 b5 (by omega)
        have ova5 := ova4.keep (SameAt.of_below b5)
        have ovb5 := ovb4.keep (SameAt.of_below b5)
        have ovx5 := ovx4.keep (SameAt.of_below b5)
        clear B4 b5 ova4 ovb4 ovx4
        clear C4 hc1
        have HVA := Lib.hid ova5
        have HVB := Lib.hid ovb5
        have HVX := Lib.hid ovx5
        have HVQ := Lib.hid ovq5
        have HBJ := Lib.hid B5
        have HZJ : Hid (w.heap.size ≤ w5.heap.size) := Lib.hid B5.size
        clear ova5 ovb5 ovx5 ovq5 B5
        go_wp2_with fail
        go_loopw [13] (fun i wr => ∃ k : Nat, i = .int .i64 (k : Int) ∧ k ≤ 8 ∧ Hid (Below w5.heap.size w5 wr)) (fun i _ => 8 - (intOf i).toNat)
        case atStart => exact ⟨0, rfl, Nat.zero_le _, Lib.hid (Below.refl _ _)⟩
        case round =>
          obtain ⟨k, rfl, hk, HW⟩ := hrel
          by_cases hlt : k < 8
          · have hlt' : (k : Int) < 8 := by omega
            obtain ⟨e1, e2, e3, e4, e5, e6, e7⟩ := HGR.out (k : Int) (by omega) (by simpa using hlt')
            obtain ⟨t1, ht1⟩ : ∃ t, grI (mixL xs ys) (k : Int) = t := ⟨_, rfl⟩
            obtain ⟨t2, ht2⟩ : ∃ t, grI xs (k : Int) = t := ⟨_, rfl⟩
            obtain ⟨t3, ht3⟩ : ∃ t, grI ys (k : Int) = t := ⟨_, rfl⟩
            rw [ht1, ht2, ht3] at e1
            rw [ht1] at e2 e3
            rw [ht2] at e4 e5
            rw [ht3] at e6 e7
            have HT1 := Lib.hid ht1
            have HT2 := Lib.hid ht2
            have HT3 := Lib.hid ht3
            have hne2 : (2 * t1 != t2 + t3) = false := by rw [e1]; simp
            clear ht1 ht2 ht3 e1
            go_wp2_with fail
            refine (implGrainsOn_any wr vx (mixL xs ys) k (HVX.out.keep (SameAt.of_below HW.out)).rd).mono ?_
            rintro e wa ⟨rfl, ba⟩
            rw [HT1.out]
            have HA := Lib.hid (below_step HW.out ba HW.out.size)
            clear ba
            go_wp2_with fail
            refine (implGrainsOn_any wa _ xs k (HVA.out.keep (SameAt.of_below HA.out)).rd).mono ?_
            rintro e wb ⟨rfl, bb⟩
            rw [HT2.out]
            have HBB := Lib.hid (below_step HA.out bb HA.out.size)
            clear bb
            go_wp2_with fail
            refine (implGrainsOn_any wb vb ys k (HVB.out.keep (SameAt.of_below HBB.out)).rd).mono ?_
            rintro e wc ⟨rfl, bc⟩
            rw [HT3.out]
            have HC := Lib.hid (below_step HBB.out bc HBB.out.size)
            clear bc
            go_wp2_with fail
            go_roundw
            case rel => exact ⟨k + 1, by go_num, by omega, HC⟩
            case measure => simp [intOf]; omega
          · have hge : (8 : Int) ≤ (k : Int) := by omega
            go_wp2_with fail
            refine (implMeasureOk_any wr vx (mixL xs ys) (HVX.out.keep (SameAt.of_below HW.out)).rd).mono ?_
            rintro e w' ⟨rfl, rfl⟩
            rw [HME.out]
            obtain ⟨f1, hf1⟩ : ∃ f, fitB xs qs = f := ⟨_, rfl⟩
            have HF1 := Lib.hid hf1
            obtain ⟨f2, hf2⟩ : ∃ f, fitB ys qs = f := ⟨_, rfl⟩
            have HF2 := Lib.hid hf2
            clear hf1 hf2
            go_wp2_with fail
            refine (implFitsOk_any wr _ vq xs qs (HVA.out.keep (SameAt.of_below HW.out)).rd (GOwn.rd qC_len (HVQ.out.keep (SameAt.of_below HW.out)))).mono ?_
            rintro e wa ⟨rfl, ba⟩
            rw [HF1.out]
            have HA := Lib.hid (below_step HW.out ba HW.out.size)
            clear ba
            cases f1
            · go_wp2_with fail
              go_ret
              exact ⟨rfl, below_step HBJ.out HA.out HZJ.out⟩
            · go_wp2_with fail
              refine (implFitsOk_any wa vb vq ys qs (HVB.out.keep (SameAt.of_below HA.out)).rd (GOwn.rd qC_len (HVQ.out.keep (SameAt.of_below HA.out)))).mono ?_
              rintro e wb ⟨rfl, bb⟩
              rw [HF2.out]
              have HBB := Lib.hid (below_step HA.out bb HA.out.size)
              clear bb
              cases f2
              · go_wp2_with fail
                go_ret
                exact ⟨rfl, below_step HBJ.out HBB.out HZJ.out⟩
              · have HF3 := Lib.hid (HFT.out qs HF1.out HF2.out)
                go_wp2_with fail
                refine (implFitsOk_any wb vx vq (mixL xs ys) qs (HVX.out.keep (SameAt.of_below HBB.out)).rd (GOwn.rd qC_len (HVQ.out.keep (SameAt.of_below HBB.out)))).mono ?_
                rintro e wc ⟨rfl, bc⟩
                rw [HF3.out]
                have HC := Lib.hid (below_step HBB.out bc HBB.out.size)
                clear bc
                go_wp2_with fail
                go_ret
                exact ⟨rfl, below_step HBJ.out HC.out HZJ.out⟩
      · clear hpos
        have C1 : Below w1.heap.size w1 w1 := Below.refl _ _
        go_wp2_with fail
        refine (implMixedMeasure_any w1 _ vb xs ys (ova1.rd) (ovb1.rd)).mono ?_
        rintro e w2 ⟨vx, rfl, ovx2, b2⟩
        rw [HB.out]
        rw [HR.out] at ovx2
        have z2 := b2.size
        have hvx : ∀ g, vx.ownBlock = some g → g < w2.heap.size := fun g hg => (ovx2.ge g hg).2
        have B2 := below_step B1 b2 (by omega)
        have ova2 := ova1.keep (SameAt.of_below b2)
        have ovb2 := ovb1.keep (SameAt.of_below b2)
        have C2 := below_step C1 b2 (by omega)
        clear C1
        clear B1 b2 ova1 ovb1
        go_wp2_with fail
        refine (specMixedMeasure_any w2 _ vb xs ys (ova2.rd) (ovb2.rd)).mono ?_
        rintro e w3 ⟨vy, rfl, ovy3, b3⟩
        rw [HB.out]
        rw [HR.out] at ovy3
        have z3 := b3.size
        have hvy : ∀ g, vy.ownBlock = some g → g < w3.heap.size := fun g hg => (ovy3.ge g hg).2
        have B3 := below_step B2 b3 (by omega)
        have ova3 := ova2.keep (SameAt.of_below b3)
        have ovb3 := ovb2.keep (SameAt.of_below b3)
        have ovx3 := ovx2.keep (SameAt.of_below b3)
        have C3 := below_step C2 b3 (by omega)
        clear C2
        clear B2 b3 ova2 ovb2 ovx2
        go_wp2_with fail
        refine (sameInts_any w3 vx vy _ _ (ovx3.rd) (ovy3.rd)).mono ?_
        rintro e w' ⟨q4, rfl, rfl⟩
        rw [decide_self]
        have z4 : w3.heap.size ≤ (w3.drewN q4).heap.size := Nat.le_refl _
        have B4 : Below w.heap.size w (w3.drewN q4) := below_drewN B3 q4
        have ova4 : IOwn (w3.drewN q4) _ _ _ := ova3
        have ovb4 : IOwn (w3.drewN q4) _ vb _ := ovb3
        have ovx4 : IOwn (w3.drewN q4) _ vx _ := ovx3
        have ovy4 : IOwn (w3.drewN q4) _ vy _ := ovy3
        have C4 : Below w1.heap.size w1 (w3.drewN q4) := below_drewN C3 q4
        clear C3
        clear B3 ova3 ovb3 ovx3 ovy3
        generalize w3.drewN q4 = w4 at *
        clear ovy4 hvy
        go_wp2_with fail
        refine (drawFairOk_any w4 _ _ _ _ (rowc_below hc1.out C4)).mono ?_
        rintro e w5 ⟨xq5, vq, qs, rfl, ovq5, hl6, b5⟩
        have z5 := b5.size
        have B5 := below_step B4 b5 (by omega)
        have ova5 := ova4.keep (SameAt.of_below b5)
        have ovb5 := ovb4.keep (SameAt.of_below b5)
        have ovx5 := ovx4.keep (SameAt.of_below b5)
        clear B4 b5 ova4 ovb4 ovx4
        clear C4 hc1
        have HVA := Lib.hid ova5
        have HVB := Lib.hid ovb5
        have HVX := Lib.hid ovx5
        have HVQ := Lib.hid ovq5
        have HBJ := Lib.hid B5
        have HZJ : Hid (w.heap.size ≤ w5.heap.size) := Lib.hid B5.size
        clear ova5 ovb5 ovx5 ovq5 B5
        go_wp2_with fail
        go_loopw [13] (fun i wr => ∃ k : Nat, i = .int .i64 (k : Int) ∧ k ≤ 16 ∧ Hid (Below w5.heap.size w5 wr)) (fun i _ => 16 - (intOf i).toNat)
        case atStart => exact ⟨0, rfl, Nat.zero_le _, Lib.hid (Below.refl _ _)⟩
        case round =>
          obtain ⟨k, rfl, hk, HW⟩ := hrel
          by_cases hlt : k < 16
          · have hlt' : (k : Int) < 16 := by omega
            obtain ⟨e1, e2, e3, e4, e5, e6, e7⟩ := HGR.out (k : Int) (by omega) (by simpa using hlt')
            obtain ⟨t1, ht1⟩ : ∃ t, grI (mixL xs ys) (k : Int) = t := ⟨_, rfl⟩
            obtain ⟨t2, ht2⟩ : ∃ t, grI xs (k : Int) = t := ⟨_, rfl⟩
            obtain ⟨t3, ht3⟩ : ∃ t, grI ys (k : Int) = t := ⟨_, rfl⟩
            rw [ht1, ht2, ht3] at e1
            rw [ht1] at e2 e3
            rw [ht2] at e4 e5
            rw [ht3] at e6 e7
            have HT1 := Lib.hid ht1
            have HT2 := Lib.hid ht2
            have HT3 := Lib.hid ht3
            have hne2 : (2 * t1 != t2 + t3) = false := by rw [e1]; simp
            clear ht1 ht2 ht3 e1
            go_wp2_with fail
            refine (implGrainsOn_any wr vx (mixL xs ys) k (HVX.out.keep (SameAt.of_below HW.out)).rd).mono ?_
            rintro e wa ⟨rfl, ba⟩
            rw [HT1.out]
            have HA := Lib.hid (below_step HW.out ba HW.out.size)
            clear ba
            go_wp2_with fail
            refine (implGrainsOn_any wa _ xs k (HVA.out.keep (SameAt.of_below HA.out)).rd).mono ?_
            rintro e wb ⟨rfl, bb⟩
            rw [HT2.out]
            have HBB := Lib.hid (below_step HA.out bb HA.out.size)
            clear bb
            go_wp2_with fail
            refine (implGrainsOn_any wb vb ys k (HVB.out.keep (SameAt.of_below HBB.out)).rd).mono ?_
            rintro e wc ⟨rfl, bc⟩
            rw [HT3.out]
            have HC := Lib.hid (below_step HBB.out bc HBB.out.size)
            clear bc
            go_wp2_with fail
            go_roundw
            case rel => exact ⟨k + 1, by go_num, by omega, HC⟩
            case measure => simp [intOf]; omega
          · have hge : (16 : Int) ≤ (k : Int) := by omega
            go_wp2_with fail
            refine (implMeasureOk_any wr vx (mixL xs ys) (HVX.out.keep (SameAt.of_below HW.out)).rd).mono ?_
            rintro e w' ⟨rfl, rfl⟩
            rw [HME.out]
            obtain ⟨f1, hf1⟩ : ∃ f, fitB xs qs = f := ⟨_, rfl⟩
            have HF1 := Lib.hid hf1
            obtain ⟨f2, hf2⟩ : ∃ f, fitB ys qs = f := ⟨_, rfl⟩
            have HF2 := Lib.hid hf2
            clear hf1 hf2
            go_wp2_with fail
            refine (implFitsOk_any wr _ vq xs qs (HVA.out.keep (SameAt.of_below HW.out)).rd (GOwn.rd qC_len (HVQ.out.keep (SameAt.of_below HW.out)))).mono ?_
            rintro e wa ⟨rfl, ba⟩
            rw [HF1.out]
            have HA := Lib.hid (below_step HW.out ba HW.out.size)
            clear ba
            cases f1
            · go_wp2_with fail
              go_ret
              exact ⟨rfl, below_step HBJ.out HA.out HZJ.out⟩
            · go_wp2_with fail
              refine (implFitsOk_any wa vb vq ys qs (HVB.out.keep (SameAt.of_below HA.out)).rd (GOwn.rd qC_len (HVQ.out.keep (SameAt.of_below HA.out)))).mono ?_
              rintro e wb ⟨rfl, bb⟩
              rw [HF2.out]
              have HBB := Lib.hid (below_step HA.out bb HA.out.size)
              clear bb
              cases f2
              · go_wp2_with fail
                go_ret
                exact ⟨rfl, below_step HBJ.out HBB.out HZJ.out⟩
              · have HF3 := Lib.hid (HFT.out qs HF1.out HF2.out)
                go_wp2_with fail
                refine (implFitsOk_any wb vx vq (mixL xs ys) qs (HVX.out.keep (SameAt.of_below HBB.out)).rd (GOwn.rd qC_len (HVQ.out.keep (SameAt.of_below HBB.out)))).mono ?_
                rintro e wc ⟨rfl, bc⟩
                rw [HF3.out]
                have HC := Lib.hid (below_step HBB.out bc HBB.out.size)
                clear bc
                go_wp2_with fail
                go_ret
                exact ⟨rfl, below_step HBJ.out HC.out HZJ.out⟩
    · have HB := Lib.hid hb
      have HR := Lib.hid (mix_no hb)
      clear hb hl4 hl5
      go_wp2_with fail
      refine (implMixedMeasure_any w1 va vb xs ys (ova1.rd) (ovb1.rd)).mono ?_
      rintro e w2 ⟨vx, rfl, ovx2, b2⟩
      rw [HB.out]
      rw [HR.out] at ovx2
      have z2 := b2.size
      have hvx : ∀ g, vx.ownBlock = some g → g < w2.heap.size := fun g hg => (ovx2.ge g hg).2
      have B2 := below_step B1 b2 (by omega)
      have ova2 := ova1.keep (SameAt.of_below b2)
      have ovb2 := ovb1.keep (SameAt.of_below b2)
      clear B1 b2 ova1 ovb1
      go_wp2_with fail
      refine (specMixedMeasure_any w2 va vb xs ys (ova2.rd) (ovb2.rd)).mono ?_
      rintro e w3 ⟨vy, rfl, ovy3, b3⟩
      rw [HB.out]
      rw [HR.out] at ovy3
      have z3 := b3.size
      have hvy : ∀ g, vy.ownBlock = some g → g < w3.heap.size := fun g hg => (ovy3.ge g hg).2
      have B3 := below_step B2 b3 (by omega)
      have ova3 := ova2.keep (SameAt.of_below b3)
      have ovb3 := ovb2.keep (SameAt.of_below b3)
      have ovx3 := ovx2.keep (SameAt.of_below b3)
      clear B2 b3 ova2 ovb2 ovx2
      go_wp2_with fail
      refine (sameInts_any w3 vx vy _ _ (ovx3.rd) (ovy3.rd)).mono ?_
      rintro e w' ⟨q4, rfl, rfl⟩
      rw [decide_self]
      have z4 : w3.heap.size ≤ (w3.drewN q4).heap.size := Nat.le_refl _
      have B4 : Below w.heap.size w (w3.drewN q4) := below_drewN B3 q4
      have ova4 : IOwn (w3.drewN q4) _ va _ := ova3
      have ovb4 : IOwn (w3.drewN q4) _ vb _ := ovb3
      have ovx4 : IOwn (w3.drewN q4) _ vx _ := ovx3
      have ovy4 : IOwn (w3.drewN q4) _ vy _ := ovy3
      clear B3 ova3 ovb3 ovx3 ovy3
      generalize w3.drewN q4 = w4 at *
      obtain ⟨Ax, cx, rfl, hlcx, hmx, -⟩ := id (ovx4.rd)
      clear hvx
      go_wp2_with fail
      refine (alive_any _).mono ?_
      rintro e w' ⟨rfl, rfl⟩
      go_wp2_with fail
      go_ret
      exact ⟨rfl, B4⟩

end Go.Proofs.Ytnkgnhnggjoglaa
