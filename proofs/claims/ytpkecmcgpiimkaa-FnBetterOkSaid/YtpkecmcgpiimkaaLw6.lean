/- The walks of the laws of SumGamble and BetterOk. Conditions: rows of bytes that came in. -/
import Derived.Test.YtpkecmcgpiimkaaLw5
import Derived.Test.YtpkecmcgpiimkaaDj
namespace Go.Proofs.Ytpkecmcgpiimkaa
open Go.RowKit
set_option linter.unusedVariables false

theorem rowc_keep {k : IntKind} {w w' : World} {a : Option Addr} {len cap : Nat} {zs : List Int} (h : IsRowC k w a len cap zs) (b : Below w.heap.size w w') : IsRowC k w' a len cap zs := by
  rcases h with ⟨rfl, rfl, rfl, rfl⟩ | ⟨x, rfl, hl, hm, hz, hcell, hwz⟩
  · exact .inl ⟨rfl, rfl, rfl, rfl⟩
  · refine .inr ⟨x, rfl, hl, hm, hz, fun i hi => ?_, hwz⟩
    have hc := hcell i hi
    have hlt := World.block_lt_of_cell? w _ hc
    exact (World.cell?_of_block (b.block _ hlt)).trans hc

set_option maxHeartbeats 8000000 in
theorem FnSumGamble_walk (a0 : Option Addr) (len0 cap0 : Nat) (z0 : List Int) (w : World) (w0 : IsRowC .u8 w a0 len0 cap0 z0) :
    Calls Try.prog 4 #[.slice a0 len0 cap0] w fun e w' => e = .returned (.bool true) ∧ Below w.heap.size w w' := by
  by_cases hlen : 1048576 < len0
  · clear w0
    go_enter Try.func4, Try.ntmps4
    go_wp2
    go_ret
    exact ⟨rfl, Below.refl _ _⟩
  · have hlen' : decide (1048576 < len0) = false := by simpa using hlen
    go_enter Try.func4, Try.ntmps4
    go_wp2_with fail
    refine (drawSumGamble_any _ _ _ _ _ w0).mono ?_
    rintro e w1 ⟨va, vb, xs, ys, rfl, ova1, ovb1, -, -, B1⟩
    clear hlen hlen' w0
    have z1 := B1.size
    rcases Bool.eq_false_or_eq_true (sumB xs ys) with hs | hs
    · have HS := Lib.hid hs
      have HR := Lib.hid (sumR_yes hs).1
      have hs2 : sumB ys xs = true := by rw [sumB_comm]; exact hs
      have HS2 := Lib.hid hs2
      have HR2 : Hid (sumR ys xs = sumL xs ys) := Lib.hid (by rw [(sumR_yes hs2).1]; exact sumL_comm _ _)
      obtain ⟨g1, g2, -, g3⟩ := sumB_parts hs
      obtain ⟨n, hn⟩ : ∃ n, worstI (sumL xs ys) = n := ⟨_, rfl⟩
      obtain ⟨p, hp⟩ : ∃ n, worstI xs = n := ⟨_, rfl⟩
      obtain ⟨q, hq⟩ : ∃ n, worstI ys = n := ⟨_, rfl⟩
      obtain ⟨m, hm⟩ : ∃ n, bestI (sumL xs ys) = n := ⟨_, rfl⟩
      obtain ⟨u, hu⟩ : ∃ n, bestI xs = n := ⟨_, rfl⟩
      obtain ⟨v, hv⟩ : ∃ n, bestI ys = n := ⟨_, rfl⟩
      have hw1 : p + q ≤ n := by rw [← hn, ← hp, ← hq]; exact sum_worst hs
      have hw2 : m ≤ u + v := by rw [← hm, ← hu, ← hv]; exact sum_best hs
      obtain ⟨pb1, pb2⟩ : -1000 ≤ p ∧ p ≤ 1000 := by rw [← hp]; exact worst_bounds g1
      obtain ⟨qb1, qb2⟩ : -1000 ≤ q ∧ q ≤ 1000 := by rw [← hq]; exact worst_bounds g2
      obtain ⟨ub1, ub2⟩ : -1000 ≤ u ∧ u ≤ 1000 := by rw [← hu]; exact best_bounds g1
      obtain ⟨vb1, vb2⟩ : -1000 ≤ v ∧ v ≤ 1000 := by rw [← hv]; exact best_bounds g2
      have G1 := Lib.hid g1
      have G2 := Lib.hid g2
      have G3 := Lib.hid g3
      have N1 := Lib.hid hn
      have N2 := Lib.hid hp
      have N3 := Lib.hid hq
      have N4 := Lib.hid hm
      have N5 := Lib.hid hu
      have N6 := Lib.hid hv
      clear hs hs2 g1 g2 g3 hn hp hq hm hu hv
      go_wp2_with fail
      refine (implSumGamble_any w1 va vb _ _ ova1.rd ovb1.rd).mono ?_
      rintro e w2 ⟨vx, rfl, ovx2, b2⟩
      rw [HS.out]
      rw [HR.out] at ovx2
      have z2 := b2.size
      have hvx : ∀ g, vx.ownBlock = some g → g < w2.heap.size := fun g hg => (ovx2.ge g hg).2
      have B2 := below_step B1 b2 (by omega)
      have ova2 := ova1.keep (SameAt.of_below b2)
      have ovb2 := ovb1.keep (SameAt.of_below b2)
      clear B1 b2 ova1 ovb1
      go_wp2_with fail
      refine (specSumGamble_any w2 va vb _ _ ova2.rd ovb2.rd).mono ?_
      rintro e w3 ⟨vy, rfl, ovy3, b3⟩
      rw [HS.out]
      rw [HR.out] at ovy3
      have z3 := b3.size
      have hvy : ∀ g, vy.ownBlock = some g → g < w3.heap.size := fun g hg => (ovy3.ge g hg).2
      have B3 := below_step B2 b3 (by omega)
      have ova3 := ova2.keep (SameAt.of_below b3)
      have ovb3 := ovb2.keep (SameAt.of_below b3)
      have ovx3 := ovx2.keep (SameAt.of_below b3)
      clear B2 b3 ova2 ovb2 ovx2
      go_wp2_with fail
      refine (sameInts_any w3 vx vy _ _ ovx3.rd ovy3.rd).mono ?_
      rintro e w' ⟨q4, rfl, rfl⟩
      rw [decide_self]
      have z4 : w3.heap.size ≤ (w3.drewN q4).heap.size := Nat.le_refl _
      have B4 : Below w.heap.size w (w3.drewN q4) := below_drewN B3 q4
      have ova4 : IOwn (w3.drewN q4) _ va _ := ova3
      have ovb4 : IOwn (w3.drewN q4) _ vb _ := ovb3
      have ovx4 : IOwn (w3.drewN q4) _ vx _ := ovx3
      have ovy4 : IOwn (w3.drewN q4) _ vy _ := ovy3
      clear B3 ova3 ovb3 ovx3 ovy3
      generalize w3.drewN q4 = w4 at *
      clear ovy4 hvy
      go_wp2_with fail
      refine (implSumGamble_any w4 vb va _ _ ovb4.rd ova4.rd).mono ?_
      rintro e w5 ⟨vz, rfl, ovz5, b5⟩
      rw [HS2.out]
      rw [HR2.out] at ovz5
      have z5 := b5.size
      have hvz : ∀ g, vz.ownBlock = some g → g < w5.heap.size := fun g hg => (ovz5.ge g hg).2
      have B5 := below_step B4 b5 (by omega)
      have ova5 := ova4.keep (SameAt.of_below b5)
      have ovb5 := ovb4.keep (SameAt.of_below b5)
      have ovx5 := ovx4.keep (SameAt.of_below b5)
      clear B4 b5 ova4 ovb4 ovx4
      go_wp2_with fail
      refine (implWorstOf_any _ _ _ ovx5.rd).mono ?_
      rintro e w' ⟨rfl, rfl⟩
      rw [G3.out, N1.out]
      go_wp2_with fail
      refine (implWorstOf_any _ _ _ ova5.rd).mono ?_
      rintro e w' ⟨rfl, rfl⟩
      rw [G1.out, N2.out]
      go_wp2_with fail
      refine (implWorstOf_any _ _ _ ovb5.rd).mono ?_
      rintro e w' ⟨rfl, rfl⟩
      rw [G2.out, N3.out]
      go_wp2_with fail
      refine (implBestOf_any _ _ _ ovx5.rd).mono ?_
      rintro e w' ⟨rfl, rfl⟩
      rw [G3.out, N4.out]
      go_wp2_with fail
      refine (implBestOf_any _ _ _ ova5.rd).mono ?_
      rintro e w' ⟨rfl, rfl⟩
      rw [G1.out, N5.out]
      go_wp2_with fail
      refine (implBestOf_any _ _ _ ovb5.rd).mono ?_
      rintro e w' ⟨rfl, rfl⟩
      rw [G2.out, N6.out]
      go_wp2_with fail
      refine (sameInts_any w5 vz vx _ _ ovz5.rd ovx5.rd).mono ?_
      rintro e w' ⟨q6, rfl, rfl⟩
      rw [decide_self]
      have z6 : w5.heap.size ≤ (w5.drewN q6).heap.size := Nat.le_refl _
      have B6 : Below w.heap.size w (w5.drewN q6) := below_drewN B5 q6
      have ova6 : IOwn (w5.drewN q6) _ va _ := ova5
      have ovb6 : IOwn (w5.drewN q6) _ vb _ := ovb5
      have ovx6 : IOwn (w5.drewN q6) _ vx _ := ovx5
      have ovz6 : IOwn (w5.drewN q6) _ vz _ := ovz5
      clear B5 ova5 ovb5 ovx5 ovz5
      generalize w5.drewN q6 = w6 at *
      go_wp2_with fail
      go_ret
      exact ⟨ret_bool (by simp), B6⟩
    · have HS := Lib.hid hs
      have HR := Lib.hid (sumR_no hs)
      clear hs
      go_wp2_with fail
      refine (implSumGamble_any w1 va vb _ _ ova1.rd ovb1.rd).mono ?_
      rintro e w2 ⟨vx, rfl, ovx2, b2⟩
      rw [HS.out]
      rw [HR.out] at ovx2
      have z2 := b2.size
      have hvx : ∀ g, vx.ownBlock = some g → g < w2.heap.size := fun g hg => (ovx2.ge g hg).2
      have B2 := below_step B1 b2 (by omega)
      have ova2 := ova1.keep (SameAt.of_below b2)
      have ovb2 := ovb1.keep (SameAt.of_below b2)
      clear B1 b2 ova1 ovb1
      go_wp2_with fail
      refine (specSumGamble_any w2 va vb _ _ ova2.rd ovb2.rd).mono ?_
      rintro e w3 ⟨vy, rfl, ovy3, b3⟩
      rw [HS.out]
      rw [HR.out] at ovy3
      have z3 := b3.size
      have hvy : ∀ g, vy.ownBlock = some g → g < w3.heap.size := fun g hg => (ovy3.ge g hg).2
      have B3 := below_step B2 b3 (by omega)
      have ova3 := ova2.keep (SameAt.of_below b3)
      have ovb3 := ovb2.keep (SameAt.of_below b3)
      have ovx3 := ovx2.keep (SameAt.of_below b3)
      clear B2 b3 ova2 ovb2 ovx2
      obtain ⟨Ax, cx, rfl, hlcx, hmx, -⟩ := id ovx3.rd
      go_wp2_with fail
      refine (sameInts_any w3 _ vy _ _ ovx3.rd ovy3.rd).mono ?_
      rintro e w' ⟨q4, rfl, rfl⟩
      rw [decide_self]
      have z4 : w3.heap.size ≤ (w3.drewN q4).heap.size := Nat.le_refl _
      have B4 : Below w.heap.size w (w3.drewN q4) := below_drewN B3 q4
      have ova4 : IOwn (w3.drewN q4) _ va _ := ova3
      have ovb4 : IOwn (w3.drewN q4) _ vb _ := ovb3
      have ovx4 : IOwn (w3.drewN q4) _ _ _ := ovx3
      have ovy4 : IOwn (w3.drewN q4) _ vy _ := ovy3
      clear B3 ova3 ovb3 ovx3 ovy3
      generalize w3.drewN q4 = w4 at *
      go_wp2_with fail
      refine (alive_any _).mono ?_
      rintro e w' ⟨rfl, rfl⟩
      go_wp2_with fail
      go_ret
      exact ⟨ret_bool (by simp), B4⟩

theorem better_gok {a b : List Int} (h : betterB a b = true) : gokB a = true := ((gok2_iff a b).1 ((betterB_iff a b).1 h).1).1

set_option maxHeartbeats 8000000 in
theorem FnBetterOk_walk (a0 : Option Addr) (len0 cap0 : Nat) (z0 : List Int) (a1 : Option Addr) (len1 cap1 : Nat) (z1 : List Int) (w : World) (w0 : IsRowC .u8 w a0 len0 cap0 z0) (w1 : IsRowC .u8 w a1 len1 cap1 z1) :
    Calls Try.prog 8 #[.slice a0 len0 cap0, .slice a1 len1 cap1] w fun e w' => e = .returned (.bool true) ∧ Below w.heap.size w w' := by
  have HC := Lib.hid w1
  clear w1
  by_cases hlen : 1048576 < len0
  · clear w0
    go_enter Try.func8, Try.ntmps8
    go_wp2
    go_ret
    exact ⟨rfl, Below.refl _ _⟩
  have hlen' : decide (1048576 < len0) = false := by simpa using hlen
  by_cases hlen1 : 1048576 < len1
  · clear w0
    go_enter Try.func8, Try.ntmps8
    go_wp2
    go_ret
    exact ⟨rfl, Below.refl _ _⟩
  · have hlen1' : decide (1048576 < len1) = false := by simpa using hlen1
    go_enter Try.func8, Try.ntmps8
    go_wp2_with fail
    refine (drawBetterOk_any _ _ _ _ _ w0).mono ?_
    rintro e w1 ⟨va, vb, xs, ys, rfl, ova1, ovb1, -, -, B1⟩
    clear hlen hlen' hlen1 hlen1' w0
    have y1 := B1.size
    obtain ⟨t, hb⟩ : ∃ t, betterB xs ys = t := ⟨_, rfl⟩
    have HB := Lib.hid hb
    clear hb
    go_wp2_with fail
    refine (implBetterOk_any w1 va vb _ _ ova1.rd ovb1.rd).mono ?_
    rintro e w' ⟨q2, rfl, rfl⟩
    rw [HB.out]
    have z2 : w1.heap.size ≤ (w1.drewN q2).heap.size := Nat.le_refl _
    have B2 : Below w.heap.size w (w1.drewN q2) := below_drewN B1 q2
    have ova2 : IOwn (w1.drewN q2) _ va _ := ova1
    have ovb2 : IOwn (w1.drewN q2) _ vb _ := ovb1
    clear B1 ova1 ovb1
    generalize w1.drewN q2 = w2 at *
    go_wp2_with fail
    refine (specBetterOk_any w2 va vb _ _ ova2.rd ovb2.rd).mono ?_
    rintro e w' ⟨q3, rfl, rfl⟩
    rw [HB.out]
    have z3 : w2.heap.size ≤ (w2.drewN q3).heap.size := Nat.le_refl _
    have B3 : Below w.heap.size w (w2.drewN q3) := below_drewN B2 q3
    have ova3 : IOwn (w2.drewN q3) _ va _ := ova2
    have ovb3 : IOwn (w2.drewN q3) _ vb _ := ovb2
    clear B2 ova2 ovb2
    generalize w2.drewN q3 = w3 at *
    go_wp2_with fail
    refine (drawBetterOk_any w3 _ _ _ _ (rowc_keep HC.out B3)).mono ?_
    rintro e w4 ⟨vc, vd, zs, us, rfl, ovc4, ovd4, -, -, b4⟩
    have z4 := b4.size
    have B4 := below_step B3 b4 (by omega)
    have ova4 := ova3.keep (SameAt.of_below b4)
    have ovb4 := ovb3.keep (SameAt.of_below b4)
    clear B3 b4 ova3 ovb3
    rcases Bool.eq_false_or_eq_true (gokB xs) with hg | hg
    · have HG := Lib.hid hg
      have HRf := Lib.hid (better_refl hg)
      clear hg
      go_wp2_with fail
      refine (specGambleOk_any _ _ _ ova4.rd).mono ?_
      rintro e w' ⟨rfl, rfl⟩
      rw [HG.out]
      go_wp2_with fail
      refine (implBetterOk_any w4 va va _ _ ova4.rd ova4.rd).mono ?_
      rintro e w' ⟨q5, rfl, rfl⟩
      rw [HRf.out]
      have z5 : w4.heap.size ≤ (w4.drewN q5).heap.size := Nat.le_refl _
      have B5 : Below w.heap.size w (w4.drewN q5) := below_drewN B4 q5
      have ova5 : IOwn (w4.drewN q5) _ va _ := ova4
      have ovb5 : IOwn (w4.drewN q5) _ vb _ := ovb4
      have ovc5 : IOwn (w4.drewN q5) _ vc _ := ovc4
      have ovd5 : IOwn (w4.drewN q5) _ vd _ := ovd4
      clear B4 ova4 ovb4 ovc4 ovd4
      generalize w4.drewN q5 = w5 at *
      cases t
      · go_wp2_with fail
        refine (alive_any _).mono ?_
        rintro e w' ⟨rfl, rfl⟩
        go_wp2_with fail
        go_ret
        exact ⟨ret_bool (by simp), B5⟩
      · obtain ⟨r, hr⟩ : ∃ r, betterB ys xs = r := ⟨_, rfl⟩
        obtain ⟨s, hs⟩ : ∃ s, betterB ys zs = s := ⟨_, rfl⟩
        have HRr := Lib.hid hr
        have HSs := Lib.hid hs
        clear hr hs
        go_wp2_with fail
        refine (implBetterOk_any w5 vb va _ _ ovb5.rd ova5.rd).mono ?_
        rintro e w' ⟨q6, rfl, rfl⟩
        rw [HRr.out]
        have z6 : w5.heap.size ≤ (w5.drewN q6).heap.size := Nat.le_refl _
        have B6 : Below w.heap.size w (w5.drewN q6) := below_drewN B5 q6
        have ova6 : IOwn (w5.drewN q6) _ va _ := ova5
        have ovb6 : IOwn (w5.drewN q6) _ vb _ := ovb5
        have ovc6 : IOwn (w5.drewN q6) _ vc _ := ovc5
        have ovd6 : IOwn (w5.drewN q6) _ vd _ := ovd5
        clear B5 ova5 ovb5 ovc5 ovd5
        generalize w5.drewN q6 = w6 at *
        cases r
        · go_wp2_with fail
          refine (implBetterOk_any w6 vb vc _ _ ovb6.rd ovc6.rd).mono ?_
          rintro e w' ⟨q7, rfl, rfl⟩
          rw [HSs.out]
          have z7 : w6.heap.size ≤ (w6.drewN q7).heap.size := Nat.le_refl _
          have B7 : Below w.heap.size w (w6.drewN q7) := below_drewN B6 q7
          have ova7 : IOwn (w6.drewN q7) _ va _ := ova6
          have ovb7 : IOwn (w6.drewN q7) _ vb _ := ovb6
          have ovc7 : IOwn (w6.drewN q7) _ vc _ := ovc6
          have ovd7 : IOwn (w6.drewN q7) _ vd _ := ovd6
          clear B6 ova6 ovb6 ovc6 ovd6
          generalize w6.drewN q7 = w7 at *
          cases s
          · go_wp2_with fail
            refine (alive_any _).mono ?_
            rintro e w' ⟨rfl, rfl⟩
            go_wp2_with fail
            go_ret
            exact ⟨ret_bool (by simp), B7⟩
          · have HT := Lib.hid (better_trans HB.out HSs.out)
            go_wp2_with fail
            refine (implBetterOk_any w7 va vc _ _ ova7.rd ovc7.rd).mono ?_
            rintro e w' ⟨q8, rfl, rfl⟩
            rw [HT.out]
            have z8 : w7.heap.size ≤ (w7.drewN q8).heap.size := Nat.le_refl _
            have B8 : Below w.heap.size w (w7.drewN q8) := below_drewN B7 q8
            have ova8 : IOwn (w7.drewN q8) _ va _ := ova7
            have ovb8 : IOwn (w7.drewN q8) _ vb _ := ovb7
            have ovc8 : IOwn (w7.drewN q8) _ vc _ := ovc7
            have ovd8 : IOwn (w7.drewN q8) _ vd _ := ovd7
            clear B7 ova7 ovb7 ovc7 ovd7
            generalize w7.drewN q8 = w8 at *
            go_wp2_with fail
            refine (alive_any _).mono ?_
            rintro e w' ⟨rfl, rfl⟩
            go_wp2_with fail
            go_ret
            exact ⟨ret_bool (by simp), B8⟩
        · have HAn := Lib.hid (better_anti HB.out HRr.out)
          go_wp2_with fail
          refine (sameInts_any w6 va vb _ _ ova6.rd ovb6.rd).mono ?_
          rintro e w' ⟨q7, rfl, rfl⟩
          rw [HAn.out, decide_self]
          have z7 : w6.heap.size ≤ (w6.drewN q7).heap.size := Nat.le_refl _
          have B7 : Below w.heap.size w (w6.drewN q7) := below_drewN B6 q7
          have ova7 : IOwn (w6.drewN q7) _ va _ := ova6
          have ovb7 : IOwn (w6.drewN q7) _ vb _ := ovb6
          have ovc7 : IOwn (w6.drewN q7) _ vc _ := ovc6
          have ovd7 : IOwn (w6.drewN q7) _ vd _ := ovd6
          clear B6 ova6 ovb6 ovc6 ovd6
          generalize w6.drewN q7 = w7 at *
          go_wp2_with fail
          refine (implBetterOk_any w7 vb vc _ _ ovb7.rd ovc7.rd).mono ?_
          rintro e w' ⟨q8, rfl, rfl⟩
          rw [HSs.out]
          have z8 : w7.heap.size ≤ (w7.drewN q8).heap.size := Nat.le_refl _
          have B8 : Below w.heap.size w (w7.drewN q8) := below_drewN B7 q8
          have ova8 : IOwn (w7.drewN q8) _ va _ := ova7
          have ovb8 : IOwn (w7.drewN q8) _ vb _ := ovb7
          have ovc8 : IOwn (w7.drewN q8) _ vc _ := ovc7
          have ovd8 : IOwn (w7.drewN q8) _ vd _ := ovd7
          clear B7 ova7 ovb7 ovc7 ovd7
          generalize w7.drewN q8 = w8 at *
          cases s
          · go_wp2_with fail
            refine (alive_any _).mono ?_
            rintro e w' ⟨rfl, rfl⟩
            go_wp2_with fail
            go_ret
            exact ⟨ret_bool (by simp), B8⟩
          · have HT := Lib.hid (better_trans HB.out HSs.out)
            go_wp2_with fail
            refine (implBetterOk_any w8 va vc _ _ ova8.rd ovc8.rd).mono ?_
            rintro e w' ⟨q9, rfl, rfl⟩
            rw [HT.out]
            have z9 : w8.heap.size ≤ (w8.drewN q9).heap.size := Nat.le_refl _
            have B9 : Below w.heap.size w (w8.drewN q9) := below_drewN B8 q9
            have ova9 : IOwn (w8.drewN q9) _ va _ := ova8
            have ovb9 : IOwn (w8.drewN q9) _ vb _ := ovb8
            have ovc9 : IOwn (w8.drewN q9) _ vc _ := ovc8
            have ovd9 : IOwn (w8.drewN q9) _ vd _ := ovd8
            clear B8 ova8 ovb8 ovc8 ovd8
            generalize w8.drewN q9 = w9 at *
            go_wp2_with fail
            refine (alive_any _).mono ?_
            rintro e w' ⟨rfl, rfl⟩
            go_wp2_with fail
            go_ret
            exact ⟨ret_bool (by simp), B9⟩
    · have HG := Lib.hid hg
      have HT : Hid (t = false) := Lib.hid (by
        rw [← Bool.not_eq_true]
        intro h
        have := better_gok (HB.out.trans h)
        rw [hg] at this
        cases this)
      clear hg
      rw [HT.out]
      go_wp2_with fail
      refine (specGambleOk_any _ _ _ ova4.rd).mono ?_
      rintro e w' ⟨rfl, rfl⟩
      rw [HG.out]
      go_wp2_with fail
      refine (alive_any _).mono ?_
      rintro e w' ⟨rfl, rfl⟩
      go_wp2_with fail
      go_ret
      exact ⟨ret_bool (by simp), B4⟩

end Go.Proofs.Ytpkecmcgpiimkaa
