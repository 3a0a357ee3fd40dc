/- The walk of the law of FurtherOk. Conditions: rows of bytes that came in. -/
import Derived.Test.YteljcicdibbhdaaTf
import Derived.Test.YteljcicdibbhdaaRh
namespace Go.Proofs.Yteljcicdibbhdaa
open Go.RowKit
set_option linter.unusedVariables false

theorem further_facts {n : Int} {qs : List Qt} {q : Qt} (hb : bokB n qs = true) (hq : qokB n q = true) :
    furB n qs q = (decide (0 ≤ leastB n qs q.1) && (decide (leastB n qs q.1 ≤ 6 * q.2) && decide (6 * q.2 ≤ mostB n qs q.1))) ∧ (qs.length < 3 → fairB n (qs ++ [q]) = furB n qs q) := by
  have h3 := ((bokB_iff _ _).1 hb).1
  have w1 : 1 ≤ n := h3.1
  obtain ⟨m, rfl⟩ : ∃ m : Nat, n = m := ⟨n.toNat, by omega⟩
  have he : evB (m : Int) q.1 = true := (qok_true (show qokB (m : Int) (q.1, q.2) = true from hq)).1
  have hf : furB (m : Int) qs q = anyFit m (qs ++ [q]) := by rw [furB, hb, hq, Bool.true_and, Bool.true_and, Int.toNat_natCast, further_any]
  refine ⟨?_, fun hl => ?_⟩
  · rw [hf, further_iff hb hq, leastB_yes hb he, mostB_yes hb he]
  · have hb2 : bokB (m : Int) (qs ++ [q]) = true := by
      obtain ⟨k1, k2, k3⟩ := (bokB_iff _ _).1 hb
      rw [bokB_iff]
      refine ⟨k1, by simp; omega, fun x hx => ?_⟩
      rcases List.mem_append.1 hx with hx | hx
      · exact k3 x hx
      · obtain rfl := List.mem_singleton.1 hx; exact hq
    rw [hf, fairB, hb2, Bool.true_and, Int.toNat_natCast]

theorem further_no {n : Int} {qs : List Qt} {q : Qt} (h : ¬ (bokB n qs = true ∧ qokB n q = true)) : furB n qs q = false := by
  rw [furB]
  cases h1 : bokB n qs with
  | false => rfl
  | true =>
    cases h2 : qokB n q with
    | false => rfl
    | true => exact absurd ⟨h1, h2⟩ h

theorem qown_cases6 {w : World} {base : Nat} {v : Value} {qs : List Qt} (h : QOwn w base v qs) : (v = .slice none 0 0 ∧ qs = []) ∨ ∃ g cap, v = .slice (some ⟨g, 0, none⟩) qs.length cap ∧ qs.length ≤ cap ∧ cap ≤ 9223372036854775807 := by
  rcases h.2 with ⟨rfl, h0⟩ | ⟨g, cap, cur, rfl, -, -, h1, h2, -, -⟩
  · exact .inl ⟨rfl, List.length_eq_zero_iff.1 h0⟩
  · exact .inr ⟨g, cap, rfl, h1, by rw [maxLen_is] at h2; exact h2⟩

theorem two_one6 {x y : Int} : ∀ u ∈ [Value.int .i64 x, .int .i64 y], u.oneCell' = true := by
  intro u hu
  simp only [List.mem_cons, List.not_mem_nil, or_false] at hu
  rcases hu with rfl | rfl <;> rfl

theorem empty_own6 (w : World) (base : Nat) (hb : base ≤ w.heap.size) : (w.alloc (.cells #[] 35)).ownsRow base 35 2 (.slice (some ⟨w.heap.size, 0, none⟩) 0 0) 0 [] := by
  have h := World.ownsRow_lit w #[] 0 (e := 35) (base := base) (size := 2) hb (by unfold maxLen; omega) rfl
  simpa using h

theorem flat_get6 (qs : List Qt) (j : Nat) : (qs.flatMap qC)[j]? = (qs[j / 2]?).bind fun q => (qC q)[j % 2]? := by
  induction qs generalizing j with
  | nil => simp
  | cons q qs ih =>
    rw [List.flatMap_cons]
    match j with
    | 0 => rfl
    | 1 => rfl
    | j + 2 =>
      have h1 : (j + 2) / 2 = j / 2 + 1 := by omega
      have h2 : (j + 2) % 2 = j % 2 := by omega
      rw [h1, h2, List.getElem?_append_right (by rw [qC_len]; omega), qC_len, Nat.add_sub_cancel, ih]
      rfl

theorem grd_news6 {w : World} {b off n c : Nat} {qs : List Qt} (h : QRd w (.slice (some ⟨b, off, none⟩) n c) qs) : ∀ j u, (qs.flatMap qC)[j]? = some u → w.cell? ((⟨b, off, none⟩ : Addr).add j) = some u := by
  intro j u hu
  rw [flat_get6] at hu
  cases hq : qs[j / 2]? with
  | none => rw [hq] at hu; cases hu
  | some q =>
    rw [hq] at hu
    obtain ⟨c0, c1⟩ := QRd.cell h hq
    rw [addr_add]
    rcases Nat.mod_two_eq_zero_or_one j with h2 | h2
    · rw [h2] at hu
      obtain rfl : Value.int .i64 q.1 = u := Option.some.inj hu
      rw [show off + j = off + j / 2 * 2 from by omega]; exact c0
    · rw [h2] at hu
      obtain rfl : Value.int .i64 q.2 = u := Option.some.inj hu
      rw [show off + j = off + j / 2 * 2 + 1 from by omega]; exact c1

theorem quotes_one6 (qs : List Qt) : ∀ u ∈ qs.flatMap qC, u.oneCell' = true := by
  intro u hu
  obtain ⟨q, -, hq⟩ := List.mem_flatMap.1 hu
  simp only [qC, List.mem_cons, List.not_mem_nil, or_false] at hq
  rcases hq with rfl | rfl <;> rfl

theorem one_news6 {wr : World} {g : Nat} {x y : Int} (h : Blk wr g 35 #[.int .i64 x, .int .i64 y]) : ∀ j u, [Value.int .i64 x, .int .i64 y][j]? = some u → wr.cell? ((⟨g, 0, none⟩ : Addr).add j) = some u := by
  intro j u hu
  match j, hu with
  | 0, hu => obtain rfl := Option.some.inj hu; exact h.cell 0
  | 1, hu => obtain rfl := Option.some.inj hu; exact h.cell 1
  | j + 2, hu => cases hu

set_option maxRecDepth 100000 in
set_option maxHeartbeats 8000000 in
theorem FnFurtherOk_walk (a0 : Option Addr) (len0 cap0 : Nat) (z0 : List Int) (W : World) (w0 : IsRowC .u8 W a0 len0 cap0 z0) :
    Calls Try.prog 6 #[.slice a0 len0 cap0] W fun e w' => e = .returned (.bool true) ∧ Below W.heap.size W w' := by
  by_cases hlen : 1048576 < len0
  · clear w0
    go_enter Try.func6, Try.ntmps6
    go_wp2
    go_ret
    exact ⟨rfl, Below.refl _ _⟩
  · have hlen' : decide (1048576 < len0) = false := by simpa using hlen
    go_enter Try.func6, Try.ntmps6
    go_wp2_with fail
    refine (drawFurtherOk_any _ _ _ _ _ w0).mono ?_
    rintro e wd ⟨n, vb, qs, ⟨a, b⟩, rfl, ovb1, hl4, b1⟩
    unfold qV
    have HC : Hid (∀ wr, Below (wd.alloc (.cells #[.int .i64 a, .int .i64 b] 35)).heap.size (wd.alloc (.cells #[.int .i64 a, .int .i64 b] 35)) wr → wr.cell? ⟨wd.heap.size, 0, none⟩ = some (.int .i64 a) ∧ wr.cell? ⟨wd.heap.size, 1, none⟩ = some (.int .i64 b)) := Lib.hid (fun wr h => box_cells (q := (a, b)) h)
    have HW : Hid (Below W.heap.size W (wd.alloc (.cells #[.int .i64 a, .int .i64 b] 35))) := Lib.hid (b1.alloc b1.size _)
    have HVB : Hid (QOwn (wd.alloc (.cells #[.int .i64 a, .int .i64 b] 35)) (W.heap.size + 1) vb qs) := Lib.hid (ovb1.keep (SameAt.of_below ((Below.refl _ _).alloc (Nat.le_refl _) _)))
    obtain ⟨j0, hj, hy0, hy1, hy2⟩ := info_parts Try_quoteinfo
    clear hlen hlen' w0 b1 ovb1
    go_wp2_with fail
    generalize wd.alloc (.cells #[.int .i64 a, .int .i64 b] 35) = w at HC HW HVB ⊢
    have B0 : Below w.heap.size w w := Below.refl _ _
    have z0 : w.heap.size ≤ w.heap.size := Nat.le_refl _
    have ovb0 := HVB.out
    have hvb : ∀ g, vb.ownBlock = some g → g < w.heap.size := fun g hg => (ovb0.ge g hg).2
    obtain ⟨A, c, rfl, hlc, hmx⟩ := (ovb0.rd qC_len).form
    obtain ⟨t, ht⟩ : ∃ t, furB n qs (a, b) = t := ⟨_, rfl⟩
    have HT := Lib.hid ht
    rcases Bool.eq_false_or_eq_true (qokB n (a, b)) with k | k
    · rcases Bool.eq_false_or_eq_true (bokB n qs) with h | h
      · obtain ⟨hf1, hf2⟩ := further_facts h k
        have HK := Lib.hid k
        have H := Lib.hid h
        obtain ⟨x, hx⟩ : ∃ x, leastB n qs a = x := ⟨_, rfl⟩
        obtain ⟨y, hy⟩ : ∃ y, mostB n qs a = y := ⟨_, rfl⟩
        have hf1 : t = (decide (0 ≤ x) && (decide (x ≤ 6 * b) && decide (6 * b ≤ y))) := by rw [← ht, hf1, ← hx, ← hy]
        rw [ht] at hf2
        have HX := Lib.hid hx
        have HY := Lib.hid hy
        have HF1 := Lib.hid hf1
        have HF2 := Lib.hid hf2
        obtain ⟨-, b0, b6, hw1, hw2, -, -⟩ := qok_true k
        have hq3 := ((bokB_iff _ _).1 h).2.1
        clear k h ht hx hy hf1 hf2
        obtain ⟨hc0, hc1⟩ := HC.out w B0
        go_wp2_with fail
        refine (implFurtherOk_any w n _ qs (a, b) (ovb0.rd qC_len)).mono ?_
        rintro e w1 ⟨rfl, b1⟩
        rw [HT.out]
        have z1 := b1.size
        have B1 := below_step B0 b1 (by omega)
        have ovb1 := ovb0.keep (SameAt.of_below b1)
        clear hc0 hc1
        clear B0 b1 ovb0
        obtain ⟨hc0, hc1⟩ := HC.out w1 B1
        go_wp2_with fail
        refine (specFurtherOk_any w1 n _ qs (a, b) (ovb1.rd qC_len)).mono ?_
        rintro e w2 ⟨rfl, b2⟩
        rw [HT.out]
        have z2 := b2.size
        have B2 := below_step B1 b2 (by omega)
        have ovb2 := ovb1.keep (SameAt.of_below b2)
        clear hc0 hc1
        clear B1 b2 ovb1
        cases t
        all_goals
          obtain ⟨hc0, hc1⟩ := HC.out w2 B2
          go_wp2_with fail
          refine (specQuoteOk_any n (a, b) _).mono ?_
          rintro e w3 ⟨rfl, b3⟩
          rw [HK.out]
          have z3 := b3.size
          have B3 := below_step B2 b3 (by omega)
          have ovb3 := ovb2.keep (SameAt.of_below b3)
          clear hc0 hc1
          clear B2 b3 ovb2
          obtain ⟨hc0, hc1⟩ := HC.out w3 B3
          go_wp2_with fail
          refine (specBookOk_any w3 n _ qs (ovb3.rd qC_len)).mono ?_
          rintro e w4 ⟨rfl, b4⟩
          rw [H.out]
          have z4 := b4.size
          have B4 := below_step B3 b4 (by omega)
          have ovb4 := ovb3.keep (SameAt.of_below b4)
          clear hc0 hc1
          clear B3 b4 ovb3
          obtain ⟨hc0, hc1⟩ := HC.out w4 B4
          go_wp2_with fail
          refine (implLeastOn_any w4 n _ qs a (ovb4.rd qC_len)).mono ?_
          rintro e w5 ⟨rfl, b5⟩
          rw [HX.out]
          have z5 := b5.size
          have B5 := below_step B4 b5 (by omega)
          have ovb5 := ovb4.keep (SameAt.of_below b5)
          clear hc0 hc1
          clear B4 b5 ovb4
          obtain ⟨hc0, hc1⟩ := HC.out w5 B5
          have hg6 : b * 36 / 6 = 6 * b := by omega
          go_upto_region 11 with fail
          rw [hg6]
          clear hc0 hc1 hg6
          go_cut [9] (fun s9 wx => QOwn wx w5.heap.size s9 (qs ++ [(a, b)]) ∧ Below w5.heap.size w5 wx)
          case first =>
            have HO5 := Lib.hid ovb5
            rcases qown_cases6 ovb5 with ⟨hv, hq⟩ | ⟨gb, cb, hv, hcb1, hcb2⟩
            · subst hq; injection hv with hv1 hv2 hv3; subst hv1; subst hv3
              have hb0 : Below w5.heap.size w5 w5.drew := (Below.refl _ _).drew
              refine wp_region_held_drew (S := fun w' => Below w5.heap.size w5 w') (by kernel_rfl) hb0 (fun hHeld => ?_)
              refine take_in (i := 1) (v := ?_) rfl (by kernel_rfl) (fun _ _ _ h => h) rfl ?_ hHeld ?_
              rotate_left
              · intro w hSw; go_simp; all_goals with_reducible rfl
              try simp only [Act.put, List.setIfInBounds_toArray, List.set_cons_zero, List.set_cons_succ]
              refine take_in (i := 3) (v := ?_) rfl (by kernel_rfl) (fun _ _ _ h => h) rfl ?_ hHeld ?_
              rotate_left
              · intro w hSw; have hs5 : Below w5.heap.size w5 w := hSw; obtain ⟨d0, d1⟩ := HC.out w (below_step B5 hs5 B5.size); go_simp; all_goals with_reducible rfl
              try simp only [Act.put, List.setIfInBounds_toArray, List.set_cons_zero, List.set_cons_succ]
              refine ready_two (i := 0) (j := 4) rfl rfl (by kernel_rfl) (fun K hK => ?_) (fun K hK => ?_)
              · go_simp
                have ek1 : (w5.drew.alloc (.cells #[] 35)).ownsRow w5.heap.size 35 2 (.slice (some ⟨w5.heap.size, 0, none⟩) 0 0) 0 [] := by have h := empty_own6 w5.drew _ hb0.size; rwa [show w5.drew.heap.size = w5.heap.size by simp] at h
                have bk1 : Below w5.heap.size w5 (w5.drew.alloc (.cells #[] 35)) := hb0.alloc hb0.size _
                refine hK.out _ (w5.drew.alloc (.cells #[] 35)) bk1 (fun hHeld => ?_)
                clear hK K
                try simp only [Act.put, List.setIfInBounds_toArray, List.set_cons_zero, List.set_cons_succ]
                refine ready_two (i := 2) (j := 4) rfl rfl (by kernel_rfl) (fun K hK => ?_) (fun K hK => ?_)
                · refine step_append (s := .tmp 53) (x := .tmp 54) rfl rfl (run_append_owned_none (P := Try.prog) _ w5.heap.size 23 23 35 j0 2 Try.underlying23 hj _ 0 [] ek1) ?_
                  refine hK.out _ (w5.drew.alloc (.cells #[] 35)) bk1 (fun hHeld => ?_)
                  clear hK K
                  try simp only [Act.put, List.setIfInBounds_toArray, List.set_cons_zero, List.set_cons_succ]
                  refine ready_one (i := 4) rfl (by kernel_rfl) (fun K hK => ?_)
                  go_simp
                  have bk3 : Below w5.heap.size w5 ((w5.drew.alloc (.cells #[] 35)).alloc (.cells #[.int .i64 a, .int .i64 b] 35)) := bk1.alloc bk1.size _
                  have nk3 : Blk ((w5.drew.alloc (.cells #[] 35)).alloc (.cells #[.int .i64 a, .int .i64 b] 35)) (w5.heap.size + 1) 35 #[.int .i64 a, .int .i64 b] := by have h := blk_alloc (w5.drew.alloc (.cells #[] 35)) #[.int .i64 a, .int .i64 b] 35; rwa [show (w5.drew.alloc (.cells #[] 35)).heap.size = w5.heap.size + 1 by simp] at h
                  have rk3 : ((w5.drew.alloc (.cells #[] 35)).alloc (.cells #[.int .i64 a, .int .i64 b] 35)).ownsRow w5.heap.size 35 2 (.slice (some ⟨w5.heap.size, 0, none⟩) 0 0) 0 [] := World.ownsRow.alloc ek1 _
                  refine hK.out _ ((w5.drew.alloc (.cells #[] 35)).alloc (.cells #[.int .i64 a, .int .i64 b] 35)) bk3 (fun hHeld => ?_)
                  clear hK K
                  try simp only [Act.put, List.setIfInBounds_toArray, List.set_cons_zero, List.set_cons_succ]
                  refine ready_one (i := 5) rfl (by kernel_rfl) (fun K hK => ?_)
                  obtain ⟨vk4, xk4, rnk4, rk4, grk4, -, -⟩ := run_append_own_at (P := Try.prog) _ w5.heap.size 23 23 35 j0 (.agg #[.int .i64 0, .int .i64 0]) 2 16 Try.underlying23 hj hy0 hy1 hy2 rfl (by decide) _ 0 [] rk3 ⟨w5.heap.size + 1, 0, none⟩ 1 1 [.int .i64 a, .int .i64 b] rfl (one_news6 nk3) two_one6 (by unfold maxLen; omega) (by omega) bk3.size
                  refine step_append (s := .tmp 55) (x := .tmp 57) rfl rfl rnk4 ?_
                  have bk4 : Below w5.heap.size w5 xk4 := bk3.grown grk4 bk3.size (fun g hg => (World.ownsRow.lt rk3 g hg).1)
                  have qk4 : QOwn xk4 w5.heap.size vk4 ([] ++ [(a, b)]) := by simpa [GOwn, qC] using rk4
                  refine hK.out _ xk4 bk4 (fun hHeld => ?_)
                  clear hK K
                  try simp only [Act.put, List.setIfInBounds_toArray, List.set_cons_zero, List.set_cons_succ]
                  refine take_in (i := 6) (v := ?_) rfl (by kernel_rfl) (fun _ _ _ h => h) rfl ?_ hHeld ?_
                  rotate_left
                  · intro w hSw; go_simp; all_goals with_reducible rfl
                  try simp only [Act.put, List.setIfInBounds_toArray, List.set_cons_zero, List.set_cons_succ]
                  refine wpAnyH_done (by kernel_rfl) ?_ _
                  go_wp2
                  go_meet
                  exact ⟨qk4, bk4⟩
                · go_simp
                  have bk6 : Below w5.heap.size w5 ((w5.drew.alloc (.cells #[] 35)).alloc (.cells #[.int .i64 a, .int .i64 b] 35)) := bk1.alloc bk1.size _
                  have nk6 : Blk ((w5.drew.alloc (.cells #[] 35)).alloc (.cells #[.int .i64 a, .int .i64 b] 35)) (w5.heap.size + 1) 35 #[.int .i64 a, .int .i64 b] := by have h := blk_alloc (w5.drew.alloc (.cells #[] 35)) #[.int .i64 a, .int .i64 b] 35; rwa [show (w5.drew.alloc (.cells #[] 35)).heap.size = w5.heap.size + 1 by simp] at h
                  have ek6 : ((w5.drew.alloc (.cells #[] 35)).alloc (.cells #[.int .i64 a, .int .i64 b] 35)).ownsRow w5.heap.size 35 2 (.slice (some ⟨w5.heap.size, 0, none⟩) 0 0) 0 [] := World.ownsRow.alloc ek1 _
                  refine hK.out _ ((w5.drew.alloc (.cells #[] 35)).alloc (.cells #[.int .i64 a, .int .i64 b] 35)) bk6 (fun hHeld => ?_)
                  clear hK K
                  try simp only [Act.put, List.setIfInBounds_toArray, List.set_cons_zero, List.set_cons_succ]
                  refine ready_one (i := 2) rfl (by kernel_rfl) (fun K hK => ?_)
                  refine step_append (s := .tmp 53) (x := .tmp 54) rfl rfl (run_append_owned_none (P := Try.prog) _ w5.heap.size 23 23 35 j0 2 Try.underlying23 hj _ 0 [] ek6) ?_
                  refine hK.out _ ((w5.drew.alloc (.cells #[] 35)).alloc (.cells #[.int .i64 a, .int .i64 b] 35)) bk6 (fun hHeld => ?_)
                  clear hK K
                  try simp only [Act.put, List.setIfInBounds_toArray, List.set_cons_zero, List.set_cons_succ]
                  refine ready_one (i := 5) rfl (by kernel_rfl) (fun K hK => ?_)
                  obtain ⟨vk8, xk8, rnk8, rk8, grk8, -, -⟩ := run_append_own_at (P := Try.prog) _ w5.heap.size 23 23 35 j0 (.agg #[.int .i64 0, .int .i64 0]) 2 16 Try.underlying23 hj hy0 hy1 hy2 rfl (by decide) _ 0 [] ek6 ⟨w5.heap.size + 1, 0, none⟩ 1 1 [.int .i64 a, .int .i64 b] rfl (one_news6 nk6) two_one6 (by unfold maxLen; omega) (by omega) bk6.size
                  refine step_append (s := .tmp 55) (x := .tmp 57) rfl rfl rnk8 ?_
                  have bk8 : Below w5.heap.size w5 xk8 := bk6.grown grk8 bk6.size (fun g hg => (World.ownsRow.lt ek6 g hg).1)
                  have qk8 : QOwn xk8 w5.heap.size vk8 ([] ++ [(a, b)]) := by simpa [GOwn, qC] using rk8
                  refine hK.out _ xk8 bk8 (fun hHeld => ?_)
                  clear hK K
                  try simp only [Act.put, List.setIfInBounds_toArray, List.set_cons_zero, List.set_cons_succ]
                  refine take_in (i := 6) (v := ?_) rfl (by kernel_rfl) (fun _ _ _ h => h) rfl ?_ hHeld ?_
                  rotate_left
                  · intro w hSw; go_simp; all_goals with_reducible rfl
                  try simp only [Act.put, List.setIfInBounds_toArray, List.set_cons_zero, List.set_cons_succ]
                  refine wpAnyH_done (by kernel_rfl) ?_ _
                  go_wp2
                  go_meet
                  exact ⟨qk8, bk8⟩
              · go_simp
                have bk9 : Below w5.heap.size w5 (w5.drew.alloc (.cells #[.int .i64 a, .int .i64 b] 35)) := hb0.alloc hb0.size _
                have nk9 : Blk (w5.drew.alloc (.cells #[.int .i64 a, .int .i64 b] 35)) (w5.heap.size) 35 #[.int .i64 a, .int .i64 b] := by have h := blk_alloc w5.drew #[.int .i64 a, .int .i64 b] 35; rwa [show w5.drew.heap.size = w5.heap.size by simp] at h
                refine hK.out _ (w5.drew.alloc (.cells #[.int .i64 a, .int .i64 b] 35)) bk9 (fun hHeld => ?_)
                clear hK K
                try simp only [Act.put, List.setIfInBounds_toArray, List.set_cons_zero, List.set_cons_succ]
                refine ready_one (i := 0) rfl (by kernel_rfl) (fun K hK => ?_)
                go_simp
                have ek10 : ((w5.drew.alloc (.cells #[.int .i64 a, .int .i64 b] 35)).alloc (.cells #[] 35)).ownsRow w5.heap.size 35 2 (.slice (some ⟨w5.heap.size + 1, 0, none⟩) 0 0) 0 [] := by have h := empty_own6 (w5.drew.alloc (.cells #[.int .i64 a, .int .i64 b] 35)) _ bk9.size; rwa [show (w5.drew.alloc (.cells #[.int .i64 a, .int .i64 b] 35)).heap.size = w5.heap.size + 1 by simp] at h
                have bk10 : Below w5.heap.size w5 ((w5.drew.alloc (.cells #[.int .i64 a, .int .i64 b] 35)).alloc (.cells #[] 35)) := bk9.alloc bk9.size _
                have nk10 : Blk ((w5.drew.alloc (.cells #[.int .i64 a, .int .i64 b] 35)).alloc (.cells #[] 35)) (w5.heap.size) 35 #[.int .i64 a, .int .i64 b] := nk9.alloc _
                refine hK.out _ ((w5.drew.alloc (.cells #[.int .i64 a, .int .i64 b] 35)).alloc (.cells #[] 35)) bk10 (fun hHeld => ?_)
                clear hK K
                try simp only [Act.put, List.setIfInBounds_toArray, List.set_cons_zero, List.set_cons_succ]
                refine ready_one (i := 2) rfl (by kernel_rfl) (fun K hK => ?_)
                refine step_append (s := .tmp 53) (x := .tmp 54) rfl rfl (run_append_owned_none (P := Try.prog) _ w5.heap.size 23 23 35 j0 2 Try.underlying23 hj _ 0 [] ek10) ?_
                refine hK.out _ ((w5.drew.alloc (.cells #[.int .i64 a, .int .i64 b] 35)).alloc (.cells #[] 35)) bk10 (fun hHeld => ?_)
                clear hK K
                try simp only [Act.put, List.setIfInBounds_toArray, List.set_cons_zero, List.set_cons_succ]
                refine ready_one (i := 5) rfl (by kernel_rfl) (fun K hK => ?_)
                obtain ⟨vk12, xk12, rnk12, rk12, grk12, -, -⟩ := run_append_own_at (P := Try.prog) _ w5.heap.size 23 23 35 j0 (.agg #[.int .i64 0, .int .i64 0]) 2 16 Try.underlying23 hj hy0 hy1 hy2 rfl (by decide) _ 0 [] ek10 ⟨w5.heap.size, 0, none⟩ 1 1 [.int .i64 a, .int .i64 b] rfl (one_news6 nk10) two_one6 (by unfold maxLen; omega) (by omega) bk10.size
                refine step_append (s := .tmp 55) (x := .tmp 57) rfl rfl rnk12 ?_
                have bk12 : Below w5.heap.size w5 xk12 := bk10.grown grk12 bk10.size (fun g hg => (World.ownsRow.lt ek10 g hg).1)
                have qk12 : QOwn xk12 w5.heap.size vk12 ([] ++ [(a, b)]) := by simpa [GOwn, qC] using rk12
                refine hK.out _ xk12 bk12 (fun hHeld => ?_)
                clear hK K
                try simp only [Act.put, List.setIfInBounds_toArray, List.set_cons_zero, List.set_cons_succ]
                refine take_in (i := 6) (v := ?_) rfl (by kernel_rfl) (fun _ _ _ h => h) rfl ?_ hHeld ?_
                rotate_left
                · intro w hSw; go_simp; all_goals with_reducible rfl
                try simp only [Act.put, List.setIfInBounds_toArray, List.set_cons_zero, List.set_cons_succ]
                refine wpAnyH_done (by kernel_rfl) ?_ _
                go_wp2
                go_meet
                exact ⟨qk12, bk12⟩
            · injection hv with hv1 hv2 hv3; subst hv1; subst hv3
              have hb0 : Below w5.heap.size w5 w5.drew := (Below.refl _ _).drew
              refine wp_region_held_drew (S := fun w' => Below w5.heap.size w5 w') (by kernel_rfl) hb0 (fun hHeld => ?_)
              refine take_in (i := 1) (v := ?_) rfl (by kernel_rfl) (fun _ _ _ h => h) rfl ?_ hHeld ?_
              rotate_left
              · intro w hSw; go_simp; all_goals with_reducible rfl
              try simp only [Act.put, List.setIfInBounds_toArray, List.set_cons_zero, List.set_cons_succ]
              refine take_in (i := 3) (v := ?_) rfl (by kernel_rfl) (fun _ _ _ h => h) rfl ?_ hHeld ?_
              rotate_left
              · intro w hSw; have hs5 : Below w5.heap.size w5 w := hSw; obtain ⟨d0, d1⟩ := HC.out w (below_step B5 hs5 B5.size); go_simp; all_goals with_reducible rfl
              try simp only [Act.put, List.setIfInBounds_toArray, List.set_cons_zero, List.set_cons_succ]
              refine ready_two (i := 0) (j := 4) rfl rfl (by kernel_rfl) (fun K hK => ?_) (fun K hK => ?_)
              · go_simp
                have ek13 : (w5.drew.alloc (.cells #[] 35)).ownsRow w5.heap.size 35 2 (.slice (some ⟨w5.heap.size, 0, none⟩) 0 0) 0 [] := by have h := empty_own6 w5.drew _ hb0.size; rwa [show w5.drew.heap.size = w5.heap.size by simp] at h
                have bk13 : Below w5.heap.size w5 (w5.drew.alloc (.cells #[] 35)) := hb0.alloc hb0.size _
                refine hK.out _ (w5.drew.alloc (.cells #[] 35)) bk13 (fun hHeld => ?_)
                clear hK K
                try simp only [Act.put, List.setIfInBounds_toArray, List.set_cons_zero, List.set_cons_succ]
                refine ready_two (i := 2) (j := 4) rfl rfl (by kernel_rfl) (fun K hK => ?_) (fun K hK => ?_)
                · have nwk14 := grd_news6 ((GOwn.rd qC_len HO5.out).keep (SameAt.of_below bk13))
                  obtain ⟨vk14, xk14, rnk14, rk14, grk14, -, -⟩ := run_append_own_at (P := Try.prog) _ w5.heap.size 23 23 35 j0 (.agg #[.int .i64 0, .int .i64 0]) 2 16 Try.underlying23 hj hy0 hy1 hy2 rfl (by decide) _ 0 [] ek13 ⟨gb, 0, none⟩ qs.length c (qs.flatMap qC) (flat_len qC_len qs) nwk14 (quotes_one6 qs) (by unfold maxLen; omega) (by omega) bk13.size
                  refine step_append (s := .tmp 53) (x := .tmp 54) rfl rfl rnk14 ?_
                  have rk14 : xk14.ownsRow w5.heap.size 35 2 vk14 qs.length (qs.flatMap qC) := by simpa using rk14
                  have bk14 : Below w5.heap.size w5 xk14 := bk13.grown grk14 bk13.size (fun g hg => (World.ownsRow.lt ek13 g hg).1)
                  refine hK.out _ xk14 bk14 (fun hHeld => ?_)
                  clear hK K
                  try simp only [Act.put, List.setIfInBounds_toArray, List.set_cons_zero, List.set_cons_succ]
                  refine ready_one (i := 4) rfl (by kernel_rfl) (fun K hK => ?_)
                  go_simp
                  have bk15 : Below w5.heap.size w5 (xk14.alloc (.cells #[.int .i64 a, .int .i64 b] 35)) := bk14.alloc bk14.size _
                  have nk15 : Blk (xk14.alloc (.cells #[.int .i64 a, .int .i64 b] 35)) (xk14.heap.size) 35 #[.int .i64 a, .int .i64 b] := by have h := blk_alloc xk14 #[.int .i64 a, .int .i64 b] 35; rwa [show xk14.heap.size = xk14.heap.size by simp] at h
                  have rk15 : (xk14.alloc (.cells #[.int .i64 a, .int .i64 b] 35)).ownsRow w5.heap.size 35 2 vk14 qs.length (qs.flatMap qC) := World.ownsRow.alloc rk14 _
                  refine hK.out _ (xk14.alloc (.cells #[.int .i64 a, .int .i64 b] 35)) bk15 (fun hHeld => ?_)
                  clear hK K
                  try simp only [Act.put, List.setIfInBounds_toArray, List.set_cons_zero, List.set_cons_succ]
                  refine ready_one (i := 5) rfl (by kernel_rfl) (fun K hK => ?_)
                  obtain ⟨vk16, xk16, rnk16, rk16, grk16, -, -⟩ := run_append_own_at (P := Try.prog) _ w5.heap.size 23 23 35 j0 (.agg #[.int .i64 0, .int .i64 0]) 2 16 Try.underlying23 hj hy0 hy1 hy2 rfl (by decide) _ qs.length (qs.flatMap qC) rk15 ⟨xk14.heap.size, 0, none⟩ 1 1 [.int .i64 a, .int .i64 b] rfl (one_news6 nk15) two_one6 (by unfold maxLen; omega) (by omega) bk15.size
                  refine step_append (s := .tmp 55) (x := .tmp 57) rfl rfl rnk16 ?_
                  have bk16 : Below w5.heap.size w5 xk16 := bk15.grown grk16 bk15.size (fun g hg => (World.ownsRow.lt rk15 g hg).1)
                  have qk16 : QOwn xk16 w5.heap.size vk16 (qs ++ [(a, b)]) := by simpa [GOwn, qC] using rk16
                  refine hK.out _ xk16 bk16 (fun hHeld => ?_)
                  clear hK K
                  try simp only [Act.put, List.setIfInBounds_toArray, List.set_cons_zero, List.set_cons_succ]
                  refine take_in (i := 6) (v := ?_) rfl (by kernel_rfl) (fun _ _ _ h => h) rfl ?_ hHeld ?_
                  rotate_left
                  · intro w hSw; go_simp; all_goals with_reducible rfl
                  try simp only [Act.put, List.setIfInBounds_toArray, List.set_cons_zero, List.set_cons_succ]
                  refine wpAnyH_done (by kernel_rfl) ?_ _
                  go_wp2
                  go_meet
                  exact ⟨qk16, bk16⟩
                · go_simp
                  have bk18 : Below w5.heap.size w5 ((w5.drew.alloc (.cells #[] 35)).alloc (.cells #[.int .i64 a, .int .i64 b] 35)) := bk13.alloc bk13.size _
                  have nk18 : Blk ((w5.drew.alloc (.cells #[] 35)).alloc (.cells #[.int .i64 a, .int .i64 b] 35)) (w5.heap.size + 1) 35 #[.int .i64 a, .int .i64 b] := by have h := blk_alloc (w5.drew.alloc (.cells #[] 35)) #[.int .i64 a, .int .i64 b] 35; rwa [show (w5.drew.alloc (.cells #[] 35)).heap.size = w5.heap.size + 1 by simp] at h
                  have ek18 : ((w5.drew.alloc (.cells #[] 35)).alloc (.cells #[.int .i64 a, .int .i64 b] 35)).ownsRow w5.heap.size 35 2 (.slice (some ⟨w5.heap.size, 0, none⟩) 0 0) 0 [] := World.ownsRow.alloc ek13 _
                  refine hK.out _ ((w5.drew.alloc (.cells #[] 35)).alloc (.cells #[.int .i64 a, .int .i64 b] 35)) bk18 (fun hHeld => ?_)
                  clear hK K
                  try simp only [Act.put, List.setIfInBounds_toArray, List.set_cons_zero, List.set_cons_succ]
                  refine ready_one (i := 2) rfl (by kernel_rfl) (fun K hK => ?_)
                  have nwk19 := grd_news6 ((GOwn.rd qC_len HO5.out).keep (SameAt.of_below bk18))
                  obtain ⟨vk19, xk19, rnk19, rk19, grk19, -, -⟩ := run_append_own_at (P := Try.prog) _ w5.heap.size 23 23 35 j0 (.agg #[.int .i64 0, .int .i64 0]) 2 16 Try.underlying23 hj hy0 hy1 hy2 rfl (by decide) _ 0 [] ek18 ⟨gb, 0, none⟩ qs.length c (qs.flatMap qC) (flat_len qC_len qs) nwk19 (quotes_one6 qs) (by unfold maxLen; omega) (by omega) bk18.size
                  refine step_append (s := .tmp 53) (x := .tmp 54) rfl rfl rnk19 ?_
                  have rk19 : xk19.ownsRow w5.heap.size 35 2 vk19 qs.length (qs.flatMap qC) := by simpa using rk19
                  have bk19 : Below w5.heap.size w5 xk19 := bk18.grown grk19 bk18.size (fun g hg => (World.ownsRow.lt ek18 g hg).1)
                  have nk19 : Blk xk19 (w5.heap.size + 1) 35 #[.int .i64 a, .int .i64 b] := nk18.more (grk19.block _ nk18.lt (fun e => by have h1 : w5.heap.size + 1 = w5.heap.size := Option.some.inj e; omega))
                  refine hK.out _ xk19 bk19 (fun hHeld => ?_)
                  clear hK K
                  try simp only [Act.put, List.setIfInBounds_toArray, List.set_cons_zero, List.set_cons_succ]
                  refine ready_one (i := 5) rfl (by kernel_rfl) (fun K hK => ?_)
                  obtain ⟨vk20, xk20, rnk20, rk20, grk20, -, -⟩ := run_append_own_at (P := Try.prog) _ w5.heap.size 23 23 35 j0 (.agg #[.int .i64 0, .int .i64 0]) 2 16 Try.underlying23 hj hy0 hy1 hy2 rfl (by decide) _ qs.length (qs.flatMap qC) rk19 ⟨w5.heap.size + 1, 0, none⟩ 1 1 [.int .i64 a, .int .i64 b] rfl (one_news6 nk19) two_one6 (by unfold maxLen; omega) (by omega) bk19.size
                  refine step_append (s := .tmp 55) (x := .tmp 57) rfl rfl rnk20 ?_
                  have bk20 : Below w5.heap.size w5 xk20 := bk19.grown grk20 bk19.size (fun g hg => (World.ownsRow.lt rk19 g hg).1)
                  have qk20 : QOwn xk20 w5.heap.size vk20 (qs ++ [(a, b)]) := by simpa [GOwn, qC] using rk20
                  refine hK.out _ xk20 bk20 (fun hHeld => ?_)
                  clear hK K
                  try simp only [Act.put, List.setIfInBounds_toArray, List.set_cons_zero, List.set_cons_succ]
                  refine take_in (i := 6) (v := ?_) rfl (by kernel_rfl) (fun _ _ _ h => h) rfl ?_ hHeld ?_
                  rotate_left
                  · intro w hSw; go_simp; all_goals with_reducible rfl
                  try simp only [Act.put, List.setIfInBounds_toArray, List.set_cons_zero, List.set_cons_succ]
                  refine wpAnyH_done (by kernel_rfl) ?_ _
                  go_wp2
                  go_meet
                  exact ⟨qk20, bk20⟩
              · go_simp
                have bk21 : Below w5.heap.size w5 (w5.drew.alloc (.cells #[.int .i64 a, .int .i64 b] 35)) := hb0.alloc hb0.size _
                have nk21 : Blk (w5.drew.alloc (.cells #[.int .i64 a, .int .i64 b] 35)) (w5.heap.size) 35 #[.int .i64 a, .int .i64 b] := by have h := blk_alloc w5.drew #[.int .i64 a, .int .i64 b] 35; rwa [show w5.drew.heap.size = w5.heap.size by simp] at h
                refine hK.out _ (w5.drew.alloc (.cells #[.int .i64 a, .int .i64 b] 35)) bk21 (fun hHeld => ?_)
                clear hK K
                try simp only [Act.put, List.setIfInBounds_toArray, List.set_cons_zero, List.set_cons_succ]
                refine ready_one (i := 0) rfl (by kernel_rfl) (fun K hK => ?_)
                go_simp
                have ek22 : ((w5.drew.alloc (.cells #[.int .i64 a, .int .i64 b] 35)).alloc (.cells #[] 35)).ownsRow w5.heap.size 35 2 (.slice (some ⟨w5.heap.size + 1, 0, none⟩) 0 0) 0 [] := by have h := empty_own6 (w5.drew.alloc (.cells #[.int .i64 a, .int .i64 b] 35)) _ bk21.size; rwa [show (w5.drew.alloc (.cells #[.int .i64 a, .int .i64 b] 35)).heap.size = w5.heap.size + 1 by simp] at h
                have bk22 : Below w5.heap.size w5 ((w5.drew.alloc (.cells #[.int .i64 a, .int .i64 b] 35)).alloc (.cells #[] 35)) := bk21.alloc bk21.size _
                have nk22 : Blk ((w5.drew.alloc (.cells #[.int .i64 a, .int .i64 b] 35)).alloc (.cells #[] 35)) (w5.heap.size) 35 #[.int .i64 a, .int .i64 b] := nk21.alloc _
                refine hK.out _ ((w5.drew.alloc (.cells #[.int .i64 a, .int .i64 b] 35)).alloc (.cells #[] 35)) bk22 (fun hHeld => ?_)
                clear hK K
                try simp only [Act.put, List.setIfInBounds_toArray, List.set_cons_zero, List.set_cons_succ]
                refine ready_one (i := 2) rfl (by kernel_rfl) (fun K hK => ?_)
                have nwk23 := grd_news6 ((GOwn.rd qC_len HO5.out).keep (SameAt.of_below bk22))
                obtain ⟨vk23, xk23, rnk23, rk23, grk23, -, -⟩ := run_append_own_at (P := Try.prog) _ w5.heap.size 23 23 35 j0 (.agg #[.int .i64 0, .int .i64 0]) 2 16 Try.underlying23 hj hy0 hy1 hy2 rfl (by decide) _ 0 [] ek22 ⟨gb, 0, none⟩ qs.length c (qs.flatMap qC) (flat_len qC_len qs) nwk23 (quotes_one6 qs) (by unfold maxLen; omega) (by omega) bk22.size
                refine step_append (s := .tmp 53) (x := .tmp 54) rfl rfl rnk23 ?_
                have rk23 : xk23.ownsRow w5.heap.size 35 2 vk23 qs.length (qs.flatMap qC) := by simpa using rk23
                have bk23 : Below w5.heap.size w5 xk23 := bk22.grown grk23 bk22.size (fun g hg => (World.ownsRow.lt ek22 g hg).1)
                have nk23 : Blk xk23 (w5.heap.size) 35 #[.int .i64 a, .int .i64 b] := nk22.more (grk23.block _ nk22.lt (fun e => by have h1 : w5.heap.size = w5.heap.size + 1 := Option.some.inj e; omega))
                refine hK.out _ xk23 bk23 (fun hHeld => ?_)
                clear hK K
                try simp only [Act.put, List.setIfInBounds_toArray, List.set_cons_zero, List.set_cons_succ]
                refine ready_one (i := 5) rfl (by kernel_rfl) (fun K hK => ?_)
                obtain ⟨vk24, xk24, rnk24, rk24, grk24, -, -⟩ := run_append_own_at (P := Try.prog) _ w5.heap.size 23 23 35 j0 (.agg #[.int .i64 0, .int .i64 0]) 2 16 Try.underlying23 hj hy0 hy1 hy2 rfl (by decide) _ qs.length (qs.flatMap qC) rk23 ⟨w5.heap.size, 0, none⟩ 1 1 [.int .i64 a, .int .i64 b] rfl (one_news6 nk23) two_one6 (by unfold maxLen; omega) (by omega) bk23.size
                refine step_append (s := .tmp 55) (x := .tmp 57) rfl rfl rnk24 ?_
                have bk24 : Below w5.heap.size w5 xk24 := bk23.grown grk24 bk23.size (fun g hg => (World.ownsRow.lt rk23 g hg).1)
                have qk24 : QOwn xk24 w5.heap.size vk24 (qs ++ [(a, b)]) := by simpa [GOwn, qC] using rk24
                refine hK.out _ xk24 bk24 (fun hHeld => ?_)
                clear hK K
                try simp only [Act.put, List.setIfInBounds_toArray, List.set_cons_zero, List.set_cons_succ]
                refine take_in (i := 6) (v := ?_) rfl (by kernel_rfl) (fun _ _ _ h => h) rfl ?_ hHeld ?_
                rotate_left
                · intro w hSw; go_simp; all_goals with_reducible rfl
                try simp only [Act.put, List.setIfInBounds_toArray, List.set_cons_zero, List.set_cons_succ]
                refine wpAnyH_done (by kernel_rfl) ?_ _
                go_wp2
                go_meet
                exact ⟨qk24, bk24⟩
          case rest =>
            obtain ⟨oq, bq⟩ := hcut
            have HOQ := Lib.hid oq
            have bc : Below w.heap.size w wc := below_step B5 bq B5.size
            have HBC := Lib.hid bc
            have HVC := Lib.hid (ovb5.keep (SameAt.of_below bq))
            obtain ⟨hc0, hc1⟩ := HC.out wc bc
            clear oq bq bc ovb5 B5
            by_cases x0 : 0 ≤ x
            · by_cases x1 : x ≤ 6 * b
              · go_wp2_with fail
                refine (implMostOn_any wc n _ qs a (HVC.out.rd qC_len)).mono ?_
                rintro e w6 ⟨rfl, b6w⟩
                rw [HY.out]
                have HB6 := Lib.hid (below_step HBC.out b6w HBC.out.size)
                have HV6 := Lib.hid (HVC.out.keep (SameAt.of_below b6w))
                have HQ6 := Lib.hid (HOQ.out.keep (SameAt.of_below b6w))
                clear b6w hc0 hc1
                by_cases x2 : 6 * b ≤ y
                · have y2 : decide (6 * b ≤ y) = true := decide_eq_true x2
                  first
                    | (exfalso; have h := HF1.out; rw [decide_eq_true x0, decide_eq_true x1, y2] at h; cases h; done)
                    | (by_cases l3 : qs.length < 3
                       · have l4 : (qs.length : Int) < 3 := by omega
                         go_wp2_with fail
                         refine (implFairOk_any w6 n _ (qs ++ [(a, b)]) (HQ6.out.rd qC_len)).mono ?_
                         rintro e w7 ⟨rfl, b7⟩
                         rw [HF2.out l3]
                         have HB7 := Lib.hid (below_step HB6.out b7 HB6.out.size)
                         clear b7
                         go_wp2_with fail
                         go_ret
                         exact ⟨rfl, below_step HW.out HB7.out HW.out.size⟩
                       · have l4 : (3 : Int) ≤ (qs.length : Int) := by omega
                         go_wp2_with fail
                         go_ret
                         exact ⟨rfl, below_step HW.out HB6.out HW.out.size⟩)
                · have y2 : decide (6 * b ≤ y) = false := decide_eq_false x2
                  first
                    | (exfalso; have h := HF1.out; rw [decide_eq_true x0, decide_eq_true x1, y2] at h; cases h; done)
                    | (by_cases l3 : qs.length < 3
                       · have l4 : (qs.length : Int) < 3 := by omega
                         go_wp2_with fail
                         refine (implFairOk_any w6 n _ (qs ++ [(a, b)]) (HQ6.out.rd qC_len)).mono ?_
                         rintro e w7 ⟨rfl, b7⟩
                         rw [HF2.out l3]
                         have HB7 := Lib.hid (below_step HB6.out b7 HB6.out.size)
                         clear b7
                         go_wp2_with fail
                         go_ret
                         exact ⟨rfl, below_step HW.out HB7.out HW.out.size⟩
                       · have l4 : (3 : Int) ≤ (qs.length : Int) := by omega
                         go_wp2_with fail
                         go_ret
                         exact ⟨rfl, below_step HW.out HB6.out HW.out.size⟩)
              · have y1 : decide (x ≤ 6 * b) = false := decide_eq_false x1
                first
                  | (exfalso; have h := HF1.out; rw [decide_eq_true x0, y1] at h; cases h; done)
                  | (by_cases l3 : qs.length < 3
                     · have l4 : (qs.length : Int) < 3 := by omega
                       go_wp2_with fail
                       refine (implFairOk_any wc n _ (qs ++ [(a, b)]) (HOQ.out.rd qC_len)).mono ?_
                       rintro e w7 ⟨rfl, b7⟩
                       rw [HF2.out l3]
                       have HB7 := Lib.hid (below_step HBC.out b7 HBC.out.size)
                       clear b7
                       go_wp2_with fail
                       go_ret
                       exact ⟨rfl, below_step HW.out HB7.out HW.out.size⟩
                     · have l4 : (3 : Int) ≤ (qs.length : Int) := by omega
                       go_wp2_with fail
                       go_ret
                       exact ⟨rfl, below_step HW.out HBC.out HW.out.size⟩)
            · have y0 : decide (0 ≤ x) = false := decide_eq_false x0
              first
                | (exfalso; have h := HF1.out; rw [y0] at h; cases h; done)
                | (by_cases l3 : qs.length < 3
                   · have l4 : (qs.length : Int) < 3 := by omega
                     go_wp2_with fail
                     refine (implFairOk_any wc n _ (qs ++ [(a, b)]) (HOQ.out.rd qC_len)).mono ?_
                     rintro e w7 ⟨rfl, b7⟩
                     rw [HF2.out l3]
                     have HB7 := Lib.hid (below_step HBC.out b7 HBC.out.size)
                     clear b7
                     go_wp2_with fail
                     go_ret
                     exact ⟨rfl, below_step HW.out HB7.out HW.out.size⟩
                   · have l4 : (3 : Int) ≤ (qs.length : Int) := by omega
                     go_wp2_with fail
                     go_ret
                     exact ⟨rfl, below_step HW.out HBC.out HW.out.size⟩)
      · have h0 : t = false := by rw [← ht]; exact further_no (fun hh => by rw [h] at hh; cases hh.1)
        subst h0
        have HK := Lib.hid k
        have H := Lib.hid h
        clear k h ht
        obtain ⟨hc0, hc1⟩ := HC.out w B0
        go_wp2_with fail
        refine (implFurtherOk_any w n _ qs (a, b) (ovb0.rd qC_len)).mono ?_
        rintro e w1 ⟨rfl, b1⟩
        rw [HT.out]
        have z1 := b1.size
        have B1 := below_step B0 b1 (by omega)
        have ovb1 := ovb0.keep (SameAt.of_below b1)
        clear hc0 hc1
        clear B0 b1 ovb0
        obtain ⟨hc0, hc1⟩ := HC.out w1 B1
        go_wp2_with fail
        refine (specFurtherOk_any w1 n _ qs (a, b) (ovb1.rd qC_len)).mono ?_
        rintro e w2 ⟨rfl, b2⟩
        rw [HT.out]
        have z2 := b2.size
        have B2 := below_step B1 b2 (by omega)
        have ovb2 := ovb1.keep (SameAt.of_below b2)
        clear hc0 hc1
        clear B1 b2 ovb1
        obtain ⟨hc0, hc1⟩ := HC.out w2 B2
        go_wp2_with fail
        refine (specQuoteOk_any n (a, b) _).mono ?_
        rintro e w3 ⟨rfl, b3⟩
        rw [HK.out]
        have z3 := b3.size
        have B3 := below_step B2 b3 (by omega)
        have ovb3 := ovb2.keep (SameAt.of_below b3)
        clear hc0 hc1
        clear B2 b3 ovb2
        obtain ⟨hc0, hc1⟩ := HC.out w3 B3
        go_wp2_with fail
        refine (specBookOk_any w3 n _ qs (ovb3.rd qC_len)).mono ?_
        rintro e w4 ⟨rfl, b4⟩
        rw [H.out]
        have z4 := b4.size
        have B4 := below_step B3 b4 (by omega)
        have ovb4 := ovb3.keep (SameAt.of_below b4)
        clear hc0 hc1
        clear B3 b4 ovb3
        obtain ⟨hc0, hc1⟩ := HC.out w4 B4
        go_wp2_with fail
        refine (alive_any _).mono ?_
        rintro e w' ⟨rfl, rfl⟩
        clear hc0 hc1
        go_wp2_with fail
        go_ret
        exact ⟨rfl, below_step HW.out B4 HW.out.size⟩
    · have h0 : t = false := by rw [← ht]; exact further_no (fun hh => by rw [k] at hh; cases hh.2)
      subst h0
      have HK := Lib.hid k
      clear k ht
      obtain ⟨hc0, hc1⟩ := HC.out w B0
      go_wp2_with fail
      refine (implFurtherOk_any w n _ qs (a, b) (ovb0.rd qC_len)).mono ?_
      rintro e w1 ⟨rfl, b1⟩
      rw [HT.out]
      have z1 := b1.size
      have B1 := below_step B0 b1 (by omega)
      have ovb1 := ovb0.keep (SameAt.of_below b1)
      clear hc0 hc1
      clear B0 b1 ovb0
      obtain ⟨hc0, hc1⟩ := HC.out w1 B1
      go_wp2_with fail
      refine (specFurtherOk_any w1 n _ qs (a, b) (ovb1.rd qC_len)).mono ?_
      rintro e w2 ⟨rfl, b2⟩
      rw [HT.out]
      have z2 := b2.size
      have B2 := below_step B1 b2 (by omega)
      have ovb2 := ovb1.keep (SameAt.of_below b2)
      clear hc0 hc1
      clear B1 b2 ovb1
      obtain ⟨hc0, hc1⟩ := HC.out w2 B2
      go_wp2_with fail
      refine (specQuoteOk_any n (a, b) _).mono ?_
      rintro e w3 ⟨rfl, b3⟩
      rw [HK.out]
      have z3 := b3.size
      have B3 := below_step B2 b3 (by omega)
      have ovb3 := ovb2.keep (SameAt.of_below b3)
      clear hc0 hc1
      clear B2 b3 ovb2
      obtain ⟨hc0, hc1⟩ := HC.out w3 B3
      go_wp2_with fail
      refine (alive_any _).mono ?_
      rintro e w' ⟨rfl, rfl⟩
      clear hc0 hc1
      go_wp2_with fail
      go_ret
      exact ⟨rfl, below_step HW.out B3 HW.out.size⟩

end Go.Proofs.Yteljcicdibbhdaa
