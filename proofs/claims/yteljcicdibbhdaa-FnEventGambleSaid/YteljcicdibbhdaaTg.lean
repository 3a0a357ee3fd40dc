/- The walk of the law of MostOn. Conditions: rows of bytes that came in. -/
import Derived.Test.YteljcicdibbhdaaTf
import Derived.BigRegion
namespace Go.Proofs.Yteljcicdibbhdaa
open Go.RowKit
set_option linter.unusedVariables false

theorem or_tab : ∀ a b : Fin 16, bits BinOp.or IntKind.i64 ((a : Nat) : Int) ((b : Nat) : Int) = (((a : Nat) ||| (b : Nat) : Nat) : Int) := by decide +kernel

theorem most_neg {n : Int} {qs : List Qt} {e : Int} (h : ¬ (evB n e = true ∧ fairB n qs = true)) : mostB n qs e = -1 := by
  by_cases he : evB n e = true
  · exact (least_unfair (Bool.not_eq_true _ ▸ fun hf => h ⟨he, hf⟩)).2
  · exact mostB_no (fun k => he k.2)

theorem most_pos {n : Int} {qs : List Qt} {e : Int} (he : evB n e = true) (hf : fairB n qs = true) : 0 ≤ mostB n qs e ∧ mostB n qs e ≤ 36 := by
  obtain ⟨m, rfl, m1, m4, hb, ha⟩ := fair_split hf
  rw [mostB_yes hb he]
  obtain ⟨⟨l, hl, h2⟩, -⟩ := most_some ha e
  rw [h2]
  have hg := grs_of (mea_of_fit m1 m4 hl)
  have h3 := (meaB_iff _).1 (mea_of_fit m1 m4 hl)
  refine ⟨on_nonneg l _, ?_⟩
  have := (onI_bound (natL_nonneg l) e).2
  omega

theorem most_facts {n : Int} {qs : List Qt} {e o : Int} (he : evB n e = true) (ho : evB n o = true) (hf : fairB n qs = true) :
    mostB n qs e ≤ mostB n qs (bits BinOp.or IntKind.i64 e o) ∧ mostB n qs (bits BinOp.or IntKind.i64 e o) ≤ mostB n qs e + mostB n qs o ∧ leastB n qs e ≤ mostB n qs e := by
  obtain ⟨m, rfl, m1, m4, hb, ha⟩ := fair_split hf
  obtain ⟨e1, e2⟩ := evB_15 he
  obtain ⟨o1, o2⟩ := evB_15 ho
  obtain ⟨a, rfl⟩ : ∃ a : Nat, e = a := ⟨e.toNat, by omega⟩
  obtain ⟨b, rfl⟩ : ∃ b : Nat, o = b := ⟨o.toNat, by omega⟩
  have ht := or_tab ⟨a, by omega⟩ ⟨b, by omega⟩
  have ht : bits BinOp.or IntKind.i64 (a : Int) (b : Int) = ((a ||| b : Nat) : Int) := ht
  have hlt : ∀ {x : Nat}, evB (m : Int) (x : Int) = true ↔ x < 2 ^ m := by
    intro x
    rw [evB_iff, allI, Int.toNat_natCast]
    have h2 : ((2 ^ m : Nat) : Int) = (2 : Int) ^ m := by simp
    rw [← h2]
    omega
  have hor : evB (m : Int) ((a ||| b : Nat) : Int) = true := hlt.2 (Nat.or_lt_two_pow (hlt.1 he) (hlt.1 ho))
  rw [ht, mostB_yes hb he, mostB_yes hb ho, mostB_yes hb hor, leastB_yes hb he]
  exact most_or ha a b

set_option maxRecDepth 100000 in
set_option maxHeartbeats 8000000 in
theorem FnMostOn_walk (a0 : Option Addr) (len0 cap0 : Nat) (z0 : List Int) (a1 : Option Addr) (len1 cap1 : Nat) (zz : List Int) (w : World) (h0 : IsRowC .u8 w a0 len0 cap0 z0) (h1 : IsRowC .u8 w a1 len1 cap1 zz) :
    Calls Try.prog 4 #[.slice a0 len0 cap0, .slice a1 len1 cap1] w fun e w' => e = .returned (.bool true) ∧ Below w.heap.size w w' := by
  by_cases hlen : 1048576 < len0
  · clear h0 h1
    have hlen2 : (1048576 : Int) < (len0 : Int) := by omega
    go_enter Try.func4, Try.ntmps4
    go_wp2
    go_ret
    exact ⟨rfl, Below.refl _ _⟩
  have hlen' : (len0 : Int) ≤ 1048576 := by omega
  by_cases hlen1 : 1048576 < len1
  · clear h0 h1
    have hlen2 : (1048576 : Int) < (len1 : Int) := by omega
    go_enter Try.func4, Try.ntmps4
    go_wp2
    go_ret
    exact ⟨rfl, Below.refl _ _⟩
  · have hlen1' : (len1 : Int) ≤ 1048576 := by omega
    clear hlen hlen1
    go_enter Try.func4, Try.ntmps4
    go_wp2_with fail
    refine (drawMostOn_any _ _ _ _ _ h0).mono ?_
    rintro e w1 ⟨n, vb, qs, y, rfl, ovb1, hl4, B1⟩
    clear h0
    have z1 := B1.size
    have hvb : ∀ g, vb.ownBlock = some g → g < w1.heap.size := fun g hg => (ovb1.ge g hg).2
    by_cases hk : evB n y = true ∧ fairB n qs = true
    · obtain ⟨k, f⟩ := hk
      obtain ⟨m, hm, m1, m4, hb, -⟩ := fair_split f
      obtain ⟨t1, t2⟩ := most_pos k f
      have HK := Lib.hid k
      have HF := Lib.hid f
      have H1 := Lib.hid h1
      have hw1 : 1 ≤ n := by omega
      have hw2 : n ≤ 4 := by omega
      clear k f hb h1 hm m1 m4
      obtain ⟨t, ht⟩ : ∃ t, mostB n qs y = t := ⟨_, rfl⟩
      rw [ht] at t1 t2
      have HT := Lib.hid ht
      clear ht
      go_wp2_with fail
      refine (implMostOn_any w1 n vb qs y (ovb1.rd qC_len)).mono ?_
      rintro e w2 ⟨rfl, b2⟩
      rw [HT.out]
      have z2 := b2.size
      have B2 := below_step B1 b2 (by omega)
      have ovb2 := ovb1.keep (SameAt.of_below b2)
      clear B1 b2 ovb1
      go_wp2_with fail
      refine (specMostOn_any w2 n vb qs y (ovb2.rd qC_len)).mono ?_
      rintro e w3 ⟨rfl, b3⟩
      rw [HT.out]
      have z3 := b3.size
      have B3 := below_step B2 b3 (by omega)
      have ovb3 := ovb2.keep (SameAt.of_below b3)
      clear B2 b3 ovb2
      by_cases hp : 0 < len1
      · obtain ⟨xa, rfl, hx2, hx3, hx4, hx5, hx6⟩ : ∃ x, a1 = some x ∧ len1 ≤ cap1 ∧ cap1 ≤ maxLen ∧ zz.length = cap1 ∧ (∀ i, i < zz.length → w.cell? (x.add i) = some (.int .u8 (zz.getD i 0))) ∧ ∀ n ∈ zz, (Lit.int .u8 n).wf = true := by
          rcases H1.out with ⟨-, h0, -, -⟩ | h
          · omega
          · exact h
        obtain ⟨v, hv1, hv2⟩ := u8_of hx6 0
        have hcell := hx5 0 (by omega)
        rw [hv2] at hcell
        rw [show xa.add 0 = xa from rfl] at hcell
        have hcell3 : w3.cell? xa = some (.int .u8 (v : Int)) := (B3.cell (p := xa) (World.block_lt_of_cell? w _ hcell)).trans hcell
        have hp0 : (0 : Int) < (len1 : Int) := by omega
        have hv0 : (0 : Int) ≤ (v : Int) := by omega
        have hv3 : (v : Int) ≤ 255 := by omega
        clear hx2 hx3 hx4 hx5 hx6 hcell hv1 hv2 H1
        have HB3 := Lib.hid B3
        have HO3 := Lib.hid ovb3
        clear B3 ovb3
        obtain rfl | rfl | rfl | rfl := wcases hw1 hw2
        · have hwr : IntKind.i64.wrap 2 = 2 := by decide
          have HO : Hid (evB 1 ((v : Int) % 2) = true) := Lib.hid (by rw [evB_iff, show allI 1 = 1 from by decide]; omega)
          obtain ⟨f1, f2, f3⟩ := most_facts (o := (v : Int) % 2) HK.out HO.out HF.out
          obtain ⟨x, hx⟩ : ∃ x, mostB 1 qs (bits BinOp.or IntKind.i64 y ((v : Int) % 2)) = x := ⟨_, rfl⟩
          obtain ⟨u, hu⟩ : ∃ u, mostB 1 qs ((v : Int) % 2) = u := ⟨_, rfl⟩
          obtain ⟨s, hs⟩ : ∃ s, leastB 1 qs y = s := ⟨_, rfl⟩
          rw [HT.out] at f1 f2 f3
          rw [hx] at f1 f2
          rw [hu] at f2
          rw [hs] at f3
          have u1 := (most_pos HO.out HF.out).1
          have u2 := (most_pos HO.out HF.out).2
          rw [hu] at u1 u2
          have HX := Lib.hid hx
          have HY := Lib.hid hu
          have HZ := Lib.hid hs
          clear hx hu hs
          go_wp2_with fail
          refine wp_region_held_drew (S := fun w' => w'.cell? xa = some (.int .u8 (v : Int))) (by kernel_rfl) hcell3 (fun hHeld => ?_)
          refine take_in (i := 0) (v := ?vy1_0) rfl (by kernel_rfl) (fun _ _ _ h => h) rfl ?hy1_0 hHeld ?ry1_0
          case hy1_0 => (intro w hSw; go_simp; all_goals with_reducible rfl)
          try simp only [Act.put, List.setIfInBounds_toArray, List.set_cons_zero, List.set_cons_succ]
          refine take_in (i := 1) (v := ?vy1_1) rfl (by kernel_rfl) (fun _ _ _ h => h) rfl ?hy1_1 hHeld ?ry1_1
          case hy1_1 => (intro w hSw; go_simp; all_goals with_reducible rfl)
          try simp only [Act.put, List.setIfInBounds_toArray, List.set_cons_zero, List.set_cons_succ]
          refine take_in (i := 2) (v := ?vy1_2) rfl (by kernel_rfl) (fun _ _ _ h => h) rfl ?hy1_2 hHeld ?ry1_2
          case hy1_2 => (intro w hSw; go_simp; all_goals with_reducible rfl)
          try simp only [Act.put, List.setIfInBounds_toArray, List.set_cons_zero, List.set_cons_succ]
          refine take_in (i := 3) (v := ?vy1_3) rfl (by kernel_rfl) (fun _ _ _ h => h) rfl ?hy1_3 hHeld ?ry1_3
          case hy1_3 => (intro w hSw; go_simp; all_goals with_reducible rfl)
          try simp only [Act.put, List.setIfInBounds_toArray, List.set_cons_zero, List.set_cons_succ]
          refine take_in (i := 4) (v := ?vy1_4) rfl (by kernel_rfl) (fun _ _ _ h => h) rfl ?hy1_4 hHeld ?ry1_4
          case hy1_4 => (intro w hSw; go_simp; all_goals with_reducible rfl)
          try simp only [Act.put, List.setIfInBounds_toArray, List.set_cons_zero, List.set_cons_succ]
          refine take_in (i := 5) (v := ?vy1_5) rfl (by kernel_rfl) (fun _ _ _ h => h) rfl ?hy1_5 hHeld ?ry1_5
          case hy1_5 => (intro w hSw; go_simp; all_goals with_reducible rfl)
          try simp only [Act.put, List.setIfInBounds_toArray, List.set_cons_zero, List.set_cons_succ]
          refine take_in (i := 6) (v := ?vy1_6) rfl (by kernel_rfl) (fun _ _ _ h => h) rfl ?hy1_6 hHeld ?ry1_6
          case hy1_6 => (intro w hSw; go_simp; all_goals with_reducible rfl)
          try simp only [Act.put, List.setIfInBounds_toArray, List.set_cons_zero, List.set_cons_succ]
          refine take_in (i := 7) (v := ?vy1_7) rfl (by kernel_rfl) (fun _ _ _ h => h) rfl ?hy1_7 hHeld ?ry1_7
          case hy1_7 => (intro w hSw; go_simp; all_goals with_reducible rfl)
          try simp only [Act.put, List.setIfInBounds_toArray, List.set_cons_zero, List.set_cons_succ]
          refine wpAnyH_done (by kernel_rfl) ?_ _
          clear hHeld hcell3 hp0
          have B4 := HB3.out.drew
          have ovb4 : QOwn w3.drew _ vb qs := HO3.out.keep (SameAt.of_below (Below.refl _ _).drew)
          generalize w3.drew = w4 at B4 ovb4 ⊢
          have z4 : w.heap.size ≤ w4.heap.size := B4.size
          go_wp2_with fail
          refine (implMostOn_any w4 1 vb qs _ (ovb4.rd qC_len)).mono ?_
          rintro e w5 ⟨rfl, b5⟩
          rw [HX.out]
          have z5 := b5.size
          have B5 := below_step B4 b5 (by omega)
          have ovb5 := ovb4.keep (SameAt.of_below b5)
          clear B4 b5 ovb4
          go_wp2_with fail
          refine (implMostOn_any w5 1 vb qs _ (ovb5.rd qC_len)).mono ?_
          rintro e w6 ⟨rfl, b6⟩
          rw [HY.out]
          have z6 := b6.size
          have B6 := below_step B5 b6 (by omega)
          have ovb6 := ovb5.keep (SameAt.of_below b6)
          clear B5 b6 ovb5
          go_wp2_with fail
          refine (implLeastOn_any w6 1 vb qs y (ovb6.rd qC_len)).mono ?_
          rintro e w7 ⟨rfl, b7⟩
          rw [HZ.out]
          have z7 := b7.size
          have B7 := below_step B6 b7 (by omega)
          have ovb7 := ovb6.keep (SameAt.of_below b7)
          clear B6 b7 ovb6
          go_wp2_with fail
          go_ret
          exact ⟨rfl, B7⟩
        · have hwr : IntKind.i64.wrap 4 = 4 := by decide
          have HO : Hid (evB 2 ((v : Int) % 4) = true) := Lib.hid (by rw [evB_iff, show allI 2 = 3 from by decide]; omega)
          obtain ⟨f1, f2, f3⟩ := most_facts (o := (v : Int) % 4) HK.out HO.out HF.out
          obtain ⟨x, hx⟩ : ∃ x, mostB 2 qs (bits BinOp.or IntKind.i64 y ((v : Int) % 4)) = x := ⟨_, rfl⟩
          obtain ⟨u, hu⟩ : ∃ u, mostB 2 qs ((v : Int) % 4) = u := ⟨_, rfl⟩
          obtain ⟨s, hs⟩ : ∃ s, leastB 2 qs y = s := ⟨_, rfl⟩
          rw [HT.out] at f1 f2 f3
          rw [hx] at f1 f2
          rw [hu] at f2
          rw [hs] at f3
          have u1 := (most_pos HO.out HF.out).1
          have u2 := (most_pos HO.out HF.out).2
          rw [hu] at u1 u2
          have HX := Lib.hid hx
          have HY := Lib.hid hu
          have HZ := Lib.hid hs
          clear hx hu hs
          go_wp2_with fail
          refine wp_region_held_drew (S := fun w' => w'.cell? xa = some (.int .u8 (v : Int))) (by kernel_rfl) hcell3 (fun hHeld => ?_)
          refine take_in (i := 0) (v := ?vy2_0) rfl (by kernel_rfl) (fun _ _ _ h => h) rfl ?hy2_0 hHeld ?ry2_0
          case hy2_0 => (intro w hSw; go_simp; all_goals with_reducible rfl)
          try simp only [Act.put, List.setIfInBounds_toArray, List.set_cons_zero, List.set_cons_succ]
          refine take_in (i := 1) (v := ?vy2_1) rfl (by kernel_rfl) (fun _ _ _ h => h) rfl ?hy2_1 hHeld ?ry2_1
          case hy2_1 => (intro w hSw; go_simp; all_goals with_reducible rfl)
          try simp only [Act.put, List.setIfInBounds_toArray, List.set_cons_zero, List.set_cons_succ]
          refine take_in (i := 2) (v := ?vy2_2) rfl (by kernel_rfl) (fun _ _ _ h => h) rfl ?hy2_2 hHeld ?ry2_2
          case hy2_2 => (intro w hSw; go_simp; all_goals with_reducible rfl)
          try simp only [Act.put, List.setIfInBounds_toArray, List.set_cons_zero, List.set_cons_succ]
          refine take_in (i := 3) (v := ?vy2_3) rfl (by kernel_rfl) (fun _ _ _ h => h) rfl ?hy2_3 hHeld ?ry2_3
          case hy2_3 => (intro w hSw; go_simp; all_goals with_reducible rfl)
          try simp only [Act.put, List.setIfInBounds_toArray, List.set_cons_zero, List.set_cons_succ]
          refine take_in (i := 4) (v := ?vy2_4) rfl (by kernel_rfl) (fun _ _ _ h => h) rfl ?hy2_4 hHeld ?ry2_4
          case hy2_4 => (intro w hSw; go_simp; all_goals with_reducible rfl)
          try simp only [Act.put, List.setIfInBounds_toArray, List.set_cons_zero, List.set_cons_succ]
          refine take_in (i := 5) (v := ?vy2_5) rfl (by kernel_rfl) (fun _ _ _ h => h) rfl ?hy2_5 hHeld ?ry2_5
          case hy2_5 => (intro w hSw; go_simp; all_goals with_reducible rfl)
          try simp only [Act.put, List.setIfInBounds_toArray, List.set_cons_zero, List.set_cons_succ]
          refine take_in (i := 6) (v := ?vy2_6) rfl (by kernel_rfl) (fun _ _ _ h => h) rfl ?hy2_6 hHeld ?ry2_6
          case hy2_6 => (intro w hSw; go_simp; all_goals with_reducible rfl)
          try simp only [Act.put, List.setIfInBounds_toArray, List.set_cons_zero, List.set_cons_succ]
          refine take_in (i := 7) (v := ?vy2_7) rfl (by kernel_rfl) (fun _ _ _ h => h) rfl ?hy2_7 hHeld ?ry2_7
          case hy2_7 => (intro w hSw; go_simp; all_goals with_reducible rfl)
          try simp only [Act.put, List.setIfInBounds_toArray, List.set_cons_zero, List.set_cons_succ]
          refine wpAnyH_done (by kernel_rfl) ?_ _
          clear hHeld hcell3 hp0
          have B4 := HB3.out.drew
          have ovb4 : QOwn w3.drew _ vb qs := HO3.out.keep (SameAt.of_below (Below.refl _ _).drew)
          generalize w3.drew = w4 at B4 ovb4 ⊢
          have z4 : w.heap.size ≤ w4.heap.size := B4.size
          go_wp2_with fail
          refine (implMostOn_any w4 2 vb qs _ (ovb4.rd qC_len)).mono ?_
          rintro e w5 ⟨rfl, b5⟩
          rw [HX.out]
          have z5 := b5.size
          have B5 := below_step B4 b5 (by omega)
          have ovb5 := ovb4.keep (SameAt.of_below b5)
          clear B4 b5 ovb4
          go_wp2_with fail
          refine (implMostOn_any w5 2 vb qs _ (ovb5.rd qC_len)).mono ?_
          rintro e w6 ⟨rfl, b6⟩
          rw [HY.out]
          have z6 := b6.size
          have B6 := below_step B5 b6 (by omega)
          have ovb6 := ovb5.keep (SameAt.of_below b6)
          clear B5 b6 ovb5
          go_wp2_with fail
          refine (implLeastOn_any w6 2 vb qs y (ovb6.rd qC_len)).mono ?_
          rintro e w7 ⟨rfl, b7⟩
          rw [HZ.out]
          have z7 := b7.size
          have B7 := below_step B6 b7 (by omega)
          have ovb7 := ovb6.keep (SameAt.of_below b7)
          clear B6 b7 ovb6
          go_wp2_with fail
          go_ret
          exact ⟨rfl, B7⟩
        · have hwr : IntKind.i64.wrap 8 = 8 := by decide
          have HO : Hid (evB 3 ((v : Int) % 8) = true) := Lib.hid (by rw [evB_iff, show allI 3 = 7 from by decide]; omega)
          obtain ⟨f1, f2, f3⟩ := most_facts (o := (v : Int) % 8) HK.out HO.out HF.out
          obtain ⟨x, hx⟩ : ∃ x, mostB 3 qs (bits BinOp.or IntKind.i64 y ((v : Int) % 8)) = x := ⟨_, rfl⟩
          obtain ⟨u, hu⟩ : ∃ u, mostB 3 qs ((v : Int) % 8) = u := ⟨_, rfl⟩
          obtain ⟨s, hs⟩ : ∃ s, leastB 3 qs y = s := ⟨_, rfl⟩
          rw [HT.out] at f1 f2 f3
          rw [hx] at f1 f2
          rw [hu] at f2
          rw [hs] at f3
          have u1 := (most_pos HO.out HF.out).1
          have u2 := (most_pos HO.out HF.out).2
          rw [hu] at u1 u2
          have HX := Lib.hid hx
          have HY := Lib.hid hu
          have HZ := Lib.hid hs
          clear hx hu hs
          go_wp2_with fail
          refine wp_region_held_drew (S := fun w' => w'.cell? xa = some (.int .u8 (v : Int))) (by kernel_rfl) hcell3 (fun hHeld => ?_)
          refine take_in (i := 0) (v := ?vy3_0) rfl (by kernel_rfl) (fun _ _ _ h => h) rfl ?hy3_0 hHeld ?ry3_0
          case hy3_0 => (intro w hSw; go_simp; all_goals with_reducible rfl)
          try simp only [Act.put, List.setIfInBounds_toArray, List.set_cons_zero, List.set_cons_succ]
          refine take_in (i := 1) (v := ?vy3_1) rfl (by kernel_rfl) (fun _ _ _ h => h) rfl ?hy3_1 hHeld ?ry3_1
          case hy3_1 => (intro w hSw; go_simp; all_goals with_reducible rfl)
          try simp only [Act.put, List.setIfInBounds_toArray, List.set_cons_zero, List.set_cons_succ]
          refine take_in (i := 2) (v := ?vy3_2) rfl (by kernel_rfl) (fun _ _ _ h => h) rfl ?hy3_2 hHeld ?ry3_2
          case hy3_2 => (intro w hSw; go_simp; all_goals with_reducible rfl)
          try simp only [Act.put, List.setIfInBounds_toArray, List.set_cons_zero, List.set_cons_succ]
          refine take_in (i := 3) (v := ?vy3_3) rfl (by kernel_rfl) (fun _ _ _ h => h) rfl ?hy3_3 hHeld ?ry3_3
          case hy3_3 => (intro w hSw; go_simp; all_goals with_reducible rfl)
          try simp only [Act.put, List.setIfInBounds_toArray, List.set_cons_zero, List.set_cons_succ]
          refine take_in (i := 4) (v := ?vy3_4) rfl (by kernel_rfl) (fun _ _ _ h => h) rfl ?hy3_4 hHeld ?ry3_4
          case hy3_4 => (intro w hSw; go_simp; all_goals with_reducible rfl)
          try simp only [Act.put, List.setIfInBounds_toArray, List.set_cons_zero, List.set_cons_succ]
          refine take_in (i := 5) (v := ?vy3_5) rfl (by kernel_rfl) (fun _ _ _ h => h) rfl ?hy3_5 hHeld ?ry3_5
          case hy3_5 => (intro w hSw; go_simp; all_goals with_reducible rfl)
          try simp only [Act.put, List.setIfInBounds_toArray, List.set_cons_zero, List.set_cons_succ]
          refine take_in (i := 6) (v := ?vy3_6) rfl (by kernel_rfl) (fun _ _ _ h => h) rfl ?hy3_6 hHeld ?ry3_6
          case hy3_6 => (intro w hSw; go_simp; all_goals with_reducible rfl)
          try simp only [Act.put, List.setIfInBounds_toArray, List.set_cons_zero, List.set_cons_succ]
          refine take_in (i := 7) (v := ?vy3_7) rfl (by kernel_rfl) (fun _ _ _ h => h) rfl ?hy3_7 hHeld ?ry3_7
          case hy3_7 => (intro w hSw; go_simp; all_goals with_reducible rfl)
          try simp only [Act.put, List.setIfInBounds_toArray, List.set_cons_zero, List.set_cons_succ]
          refine wpAnyH_done (by kernel_rfl) ?_ _
          clear hHeld hcell3 hp0
          have B4 := HB3.out.drew
          have ovb4 : QOwn w3.drew _ vb qs := HO3.out.keep (SameAt.of_below (Below.refl _ _).drew)
          generalize w3.drew = w4 at B4 ovb4 ⊢
          have z4 : w.heap.size ≤ w4.heap.size := B4.size
          go_wp2_with fail
          refine (implMostOn_any w4 3 vb qs _ (ovb4.rd qC_len)).mono ?_
          rintro e w5 ⟨rfl, b5⟩
          rw [HX.out]
          have z5 := b5.size
          have B5 := below_step B4 b5 (by omega)
          have ovb5 := ovb4.keep (SameAt.of_below b5)
          clear B4 b5 ovb4
          go_wp2_with fail
          refine (implMostOn_any w5 3 vb qs _ (ovb5.rd qC_len)).mono ?_
          rintro e w6 ⟨rfl, b6⟩
          rw [HY.out]
          have z6 := b6.size
          have B6 := below_step B5 b6 (by omega)
          have ovb6 := ovb5.keep (SameAt.of_below b6)
          clear B5 b6 ovb5
          go_wp2_with fail
          refine (implLeastOn_any w6 3 vb qs y (ovb6.rd qC_len)).mono ?_
          rintro e w7 ⟨rfl, b7⟩
          rw [HZ.out]
          have z7 := b7.size
          have B7 := below_step B6 b7 (by omega)
          have ovb7 := ovb6.keep (SameAt.of_below b7)
          clear B6 b7 ovb6
          go_wp2_with fail
          go_ret
          exact ⟨rfl, B7⟩
        · have hwr : IntKind.i64.wrap 16 = 16 := by decide
          have HO : Hid (evB 4 ((v : Int) % 16) = true) := Lib.hid (by rw [evB_iff, show allI 4 = 15 from by decide]; omega)
          obtain ⟨f1, f2, f3⟩ := most_facts (o := (v : Int) % 16) HK.out HO.out HF.out
          obtain ⟨x, hx⟩ : ∃ x, mostB 4 qs (bits BinOp.or IntKind.i64 y ((v : Int) % 16)) = x := ⟨_, rfl⟩
          obtain ⟨u, hu⟩ : ∃ u, mostB 4 qs ((v : Int) % 16) = u := ⟨_, rfl⟩
          obtain ⟨s, hs⟩ : ∃ s, leastB 4 qs y = s := ⟨_, rfl⟩
          rw [HT.out] at f1 f2 f3
          rw [hx] at f1 f2
          rw [hu] at f2
          rw [hs] at f3
          have u1 := (most_pos HO.out HF.out).1
          have u2 := (most_pos HO.out HF.out).2
          rw [hu] at u1 u2
          have HX := Lib.hid hx
          have HY := Lib.hid hu
          have HZ := Lib.hid hs
          clear hx hu hs
          go_wp2_with fail
          refine wp_region_held_drew (S := fun w' => w'.cell? xa = some (.int .u8 (v : Int))) (by kernel_rfl) hcell3 (fun hHeld => ?_)
          refine take_in (i := 0) (v := ?vy4_0) rfl (by kernel_rfl) (fun _ _ _ h => h) rfl ?hy4_0 hHeld ?ry4_0
          case hy4_0 => (intro w hSw; go_simp; all_goals with_reducible rfl)
          try simp only [Act.put, List.setIfInBounds_toArray, List.set_cons_zero, List.set_cons_succ]
          refine take_in (i := 1) (v := ?vy4_1) rfl (by kernel_rfl) (fun _ _ _ h => h) rfl ?hy4_1 hHeld ?ry4_1
          case hy4_1 => (intro w hSw; go_simp; all_goals with_reducible rfl)
          try simp only [Act.put, List.setIfInBounds_toArray, List.set_cons_zero, List.set_cons_succ]
          refine take_in (i := 2) (v := ?vy4_2) rfl (by kernel_rfl) (fun _ _ _ h => h) rfl ?hy4_2 hHeld ?ry4_2
          case hy4_2 => (intro w hSw; go_simp; all_goals with_reducible rfl)
          try simp only [Act.put, List.setIfInBounds_toArray, List.set_cons_zero, List.set_cons_succ]
          refine take_in (i := 3) (v := ?vy4_3) rfl (by kernel_rfl) (fun _ _ _ h => h) rfl ?hy4_3 hHeld ?ry4_3
          case hy4_3 => (intro w hSw; go_simp; all_goals with_reducible rfl)
          try simp only [Act.put, List.setIfInBounds_toArray, List.set_cons_zero, List.set_cons_succ]
          refine take_in (i := 4) (v := ?vy4_4) rfl (by kernel_rfl) (fun _ _ _ h => h) rfl ?hy4_4 hHeld ?ry4_4
          case hy4_4 => (intro w hSw; go_simp; all_goals with_reducible rfl)
          try simp only [Act.put, List.setIfInBounds_toArray, List.set_cons_zero, List.set_cons_succ]
          refine take_in (i := 5) (v := ?vy4_5) rfl (by kernel_rfl) (fun _ _ _ h => h) rfl ?hy4_5 hHeld ?ry4_5
          case hy4_5 => (intro w hSw; go_simp; all_goals with_reducible rfl)
          try simp only [Act.put, List.setIfInBounds_toArray, List.set_cons_zero, List.set_cons_succ]
          refine take_in (i := 6) (v := ?vy4_6) rfl (by kernel_rfl) (fun _ _ _ h => h) rfl ?hy4_6 hHeld ?ry4_6
          case hy4_6 => (intro w hSw; go_simp; all_goals with_reducible rfl)
          try simp only [Act.put, List.setIfInBounds_toArray, List.set_cons_zero, List.set_cons_succ]
          refine take_in (i := 7) (v := ?vy4_7) rfl (by kernel_rfl) (fun _ _ _ h => h) rfl ?hy4_7 hHeld ?ry4_7
          case hy4_7 => (intro w hSw; go_simp; all_goals with_reducible rfl)
          try simp only [Act.put, List.setIfInBounds_toArray, List.set_cons_zero, List.set_cons_succ]
          refine wpAnyH_done (by kernel_rfl) ?_ _
          clear hHeld hcell3 hp0
          have B4 := HB3.out.drew
          have ovb4 : QOwn w3.drew _ vb qs := HO3.out.keep (SameAt.of_below (Below.refl _ _).drew)
          generalize w3.drew = w4 at B4 ovb4 ⊢
          have z4 : w.heap.size ≤ w4.heap.size := B4.size
          go_wp2_with fail
          refine (implMostOn_any w4 4 vb qs _ (ovb4.rd qC_len)).mono ?_
          rintro e w5 ⟨rfl, b5⟩
          rw [HX.out]
          have z5 := b5.size
          have B5 := below_step B4 b5 (by omega)
          have ovb5 := ovb4.keep (SameAt.of_below b5)
          clear B4 b5 ovb4
          go_wp2_with fail
          refine (implMostOn_any w5 4 vb qs _ (ovb5.rd qC_len)).mono ?_
          rintro e w6 ⟨rfl, b6⟩
          rw [HY.out]
          have z6 := b6.size
          have B6 := below_step B5 b6 (by omega)
          have ovb6 := ovb5.keep (SameAt.of_below b6)
          clear B5 b6 ovb5
          go_wp2_with fail
          refine (implLeastOn_any w6 4 vb qs y (ovb6.rd qC_len)).mono ?_
          rintro e w7 ⟨rfl, b7⟩
          rw [HZ.out]
          have z7 := b7.size
          have B7 := below_step B6 b7 (by omega)
          have ovb7 := ovb6.keep (SameAt.of_below b7)
          clear B6 b7 ovb6
          go_wp2_with fail
          go_ret
          exact ⟨rfl, B7⟩
      · obtain rfl : len1 = 0 := by omega
        have HO : Hid (evB n 0 = true) := Lib.hid (by
          rw [evB_iff]
          obtain rfl | rfl | rfl | rfl := wcases hw1 hw2
          all_goals decide)
        obtain ⟨f1, f2, f3⟩ := most_facts (o := 0) HK.out HO.out HF.out
        obtain ⟨x, hx⟩ : ∃ x, mostB n qs (bits BinOp.or IntKind.i64 y (0)) = x := ⟨_, rfl⟩
        obtain ⟨u, hu⟩ : ∃ u, mostB n qs (0) = u := ⟨_, rfl⟩
        obtain ⟨s, hs⟩ : ∃ s, leastB n qs y = s := ⟨_, rfl⟩
        rw [HT.out] at f1 f2 f3
        rw [hx] at f1 f2
        rw [hu] at f2
        rw [hs] at f3
        have u1 := (most_pos HO.out HF.out).1
        have u2 := (most_pos HO.out HF.out).2
        rw [hu] at u1 u2
        have HX := Lib.hid hx
        have HY := Lib.hid hu
        have HZ := Lib.hid hs
        clear hx hu hs
        go_wp2_with fail
        refine (implMostOn_any w3 n vb qs _ (ovb3.rd qC_len)).mono ?_
        rintro e w4 ⟨rfl, b4⟩
        rw [HX.out]
        have z4 := b4.size
        have B4 := below_step B3 b4 (by omega)
        have ovb4 := ovb3.keep (SameAt.of_below b4)
        clear B3 b4 ovb3
        go_wp2_with fail
        refine (implMostOn_any w4 n vb qs _ (ovb4.rd qC_len)).mono ?_
        rintro e w5 ⟨rfl, b5⟩
        rw [HY.out]
        have z5 := b5.size
        have B5 := below_step B4 b5 (by omega)
        have ovb5 := ovb4.keep (SameAt.of_below b5)
        clear B4 b5 ovb4
        go_wp2_with fail
        refine (implLeastOn_any w5 n vb qs y (ovb5.rd qC_len)).mono ?_
        rintro e w6 ⟨rfl, b6⟩
        rw [HZ.out]
        have z6 := b6.size
        have B6 := below_step B5 b6 (by omega)
        have ovb6 := ovb5.keep (SameAt.of_below b6)
        clear B5 b6 ovb5
        go_wp2_with fail
        go_ret
        exact ⟨rfl, B6⟩
    · have HT := Lib.hid (most_neg hk)
      clear hk h1
      go_wp2_with fail
      refine (implMostOn_any w1 n vb qs y (ovb1.rd qC_len)).mono ?_
      rintro e w2 ⟨rfl, b2⟩
      rw [HT.out]
      have z2 := b2.size
      have B2 := below_step B1 b2 (by omega)
      have ovb2 := ovb1.keep (SameAt.of_below b2)
      clear B1 b2 ovb1
      go_wp2_with fail
      refine (specMostOn_any w2 n vb qs y (ovb2.rd qC_len)).mono ?_
      rintro e w3 ⟨rfl, b3⟩
      rw [HT.out]
      have z3 := b3.size
      have B3 := below_step B2 b3 (by omega)
      have ovb3 := ovb2.keep (SameAt.of_below b3)
      clear B2 b3 ovb2
      go_wp2_with fail
      refine (alive_any _).mono ?_
      rintro e w' ⟨rfl, rfl⟩
      go_wp2_with fail
      go_ret
      exact ⟨rfl, B3⟩

end Go.Proofs.Yteljcicdibbhdaa
