/- The walk of the law of FitsSides. Conditions: rows of bytes that came in. (gen_jm.py) -/
import Derived.Test.YtodmgcbcacblbaaJj
import Derived.Test.YtodmgcbcacblbaaNj
namespace Go.Proofs.Ytodmgcbcacblbaa
open Go.RowKit
set_option linter.unusedVariables false

theorem flat_get13 (bs : List Bt) (j : Nat) : (bs.flatMap bC)[j]? = (bs[j / 3]?).bind fun b => (bC b)[j % 3]? := by
  induction bs generalizing j with
  | nil => simp
  | cons b bs ih =>
    rw [List.flatMap_cons]
    match j with
    | 0 => rfl
    | 1 => rfl
    | 2 => rfl
    | j + 3 =>
      have h1 : (j + 3) / 3 = j / 3 + 1 := by omega
      have h2 : (j + 3) % 3 = j % 3 := by omega
      rw [h1, h2, List.getElem?_append_right (by rw [bC_len]; omega), bC_len, Nat.add_sub_cancel, ih]
      rfl

theorem brd_news {w : World} {b off n c : Nat} {bs : List Bt} (h : BRd w (.slice (some ⟨b, off, none⟩) n c) bs) : ∀ j u, (bs.flatMap bC)[j]? = some u → w.cell? ((⟨b, off, none⟩ : Addr).add j) = some u := by
  intro j u hu
  rw [flat_get13] at hu
  cases hq : bs[j / 3]? with
  | none => rw [hq] at hu; cases hu
  | some q =>
    rw [hq] at hu
    obtain ⟨c0, c1, c2⟩ := BRd.cell13 h hq
    rw [addr_add]
    have h3 : j % 3 = 0 ∨ j % 3 = 1 ∨ j % 3 = 2 := by omega
    rcases h3 with h2 | h2 | h2
    · rw [h2] at hu
      obtain rfl : Value.int .i64 q.1 = u := Option.some.inj hu
      rw [show off + j = off + j / 3 * 3 from by omega]; exact c0
    · rw [h2] at hu
      obtain rfl : Value.int .i64 q.2.1 = u := Option.some.inj hu
      rw [show off + j = off + j / 3 * 3 + 1 from by omega]; exact c1
    · rw [h2] at hu
      obtain rfl : Value.int .i64 q.2.2 = u := Option.some.inj hu
      rw [show off + j = off + j / 3 * 3 + 2 from by omega]; exact c2

theorem bids_one (bs : List Bt) : ∀ u ∈ bs.flatMap bC, u.oneCell' = true := by
  intro u hu
  obtain ⟨q, -, hq⟩ := List.mem_flatMap.1 hu
  simp only [bC, List.mem_cons, List.not_mem_nil, or_false] at hq
  rcases hq with rfl | rfl | rfl <;> rfl

/-- a row of bids copied behind none -/
theorem wp_copy13 {ops : Array Oper} {rest : List Oper} {o : Oper} {a : Act} {Q : Exit → Act → World → Prop} (hgd : o.guard = none) (s x : Operand)
    (ho : o.op = .call { callee := .builtin .append, args := #[s, x], argTypes := #[23, 23] }) (w : World) (B : Nat) (u : Value) (bs : List Bt)
    (hs : a.eval s = .slice (some ⟨w.heap.size, 0, none⟩) 0 0) (hx : a.eval x = u) (hu : BOwn w B u bs) (hl : bs.length ≤ 1000)
    (h : ∀ v' w', BOwn w' w.heap.size v' bs → Below w.heap.size w w' → wpList Try.prog ops Q rest (a.put o.dst v') w') :
    wpList Try.prog ops Q (o :: rest) a (w.alloc (.cells #[] 28)) := by
  obtain ⟨j0, hj, hy0, hy1, hy2⟩ := info_parts Try_bidinfo
  have hown : (w.alloc (.cells #[] 28)).ownsRow w.heap.size 28 3 (.slice (some ⟨w.heap.size, 0, none⟩) 0 0) 0 [] := World.ownsRow_lit w #[] 0 (Nat.le_refl _) (by unfold maxLen; omega) rfl
  have hrd := hu.rd bC_len
  rcases hu.2 with ⟨rfl, h0⟩ | ⟨g, cap, cur, rfl, -, -, hcap, hcm, -, -⟩
  · obtain rfl : bs = [] := List.eq_nil_of_length_eq_zero h0
    refine wpList_append_own_none hgd s x 23 ho w.heap.size 28 j0 3 Try.underlying23 hj _ _ _ hs hown hx ?_
    exact h _ _ (by simpa [GOwn] using hown) ((Below.refl _ _).alloc (Nat.le_refl _) _)
  · have hrd2 := hrd.keep (SameAt.grow (w' := w.alloc (.cells #[] 28)) rfl)
    refine wpList_append_own_at _ hgd s x 23 ho w.heap.size 28 j0 (.agg #[.int .i64 0, .int .i64 0, .int .i64 0]) 3 24 Try.underlying23 hj hy0 hy1 hy2 rfl (by decide) _ _ _ hs hown ⟨g, 0, none⟩ bs.length cap (bs.flatMap bC) hx (flat_len bC_len bs) (brd_news hrd2) (bids_one bs) (by unfold maxLen; omega) (by omega) (by simp) ?_
    intro v' w' k1 k2 k3 k4
    exact h v' w' (by simpa [GOwn] using k1) (below_app k2 (fun k hk => by have h1 : w.heap.size = k := Option.some.inj hk; omega))

/-- the first bid with Low 0 -/
def wide1 : List Bt → List Bt
  | [] => []
  | b :: bs => (b.1, 0, b.2.2) :: bs

theorem wide1_set {bs : List Bt} {b : Bt} (h : bs[0]? = some b) : bs.set 0 (b.1, 0, b.2.2) = wide1 bs := by
  cases bs with
  | nil => cases h
  | cons c bs => obtain rfl := Option.some.inj h; rfl

theorem wide1_fit {m : List Int} {bs : List Bt} (h : sfitB m bs = true) : sfitB m (wide1 bs) = true := by
  cases bs with
  | nil => exact h
  | cons b bs =>
    simp only [sfitB, Bool.and_eq_true] at h ⊢
    obtain ⟨h1, h2, h3⟩ := h
    rw [sfitI_iff] at h3
    obtain ⟨k1, k2, k3⟩ := (bidsB_iff _ _).1 h2
    refine ⟨h1, (bidsB_iff _ _).2 ⟨k1, k2, fun c hc => ?_⟩, (sfitI_iff _ _).2 fun c hc => ?_⟩
    · rcases List.mem_cons.1 hc with rfl | hc
      · obtain ⟨j1, j2, j3⟩ := (bidB_iff _ _).1 (k3 b (by simp))
        refine (bidB_iff _ _).2 ⟨j1, ?_, j3⟩
        show (0 : Int) ≤ 0 ∧ 0 ≤ b.2.2
        omega
      · exact k3 c (by simp [hc])
    · rcases List.mem_cons.1 hc with rfl | hc
      · have := h3 b (by simp)
        have j := (bidB_iff _ _).1 (k3 b (by simp))
        show 6 * (0 : Int) ≤ onI m b.1 ∧ onI m b.1 ≤ 6 * b.2.2
        omega
      · exact h3 c (by simp [hc])

theorem hi_between {n : Int} {bs : List Bt} (h : bidsB n bs = true) : ∀ b ∈ bs, b.2.1 ≤ b.2.2 ∧ b.2.2 ≤ b.2.2 := fun b hb => by
  obtain ⟨k1, k2, k3⟩ := (bidB_iff _ _).1 (((bidsB_iff _ _).1 h).2.2 b hb)
  omega

theorem same_sfit {f : Bt → Int} {m : List Int} {bs : List Bt} (h : bidsB (m.length : Int) bs = true) (hf : ∀ b ∈ bs, b.2.1 ≤ f b ∧ f b ≤ b.2.2) : sfitB m (sameF f bs) = fitB m (quoF f bs) := by
  obtain ⟨h1, h2⟩ := same_ok h hf
  rw [sfitB, fitB, h1, h2, same_fit]

theorem sfit_nob {m : List Int} {bs : List Bt} (h : bidsB (m.length : Int) bs = false) : sfitB m bs = false := by rw [sfitB, h]; simp

set_option maxRecDepth 100000 in
set_option maxHeartbeats 8000000 in
theorem FnFitsSides_walk (a0 : Option Addr) (len0 cap0 : Nat) (z0 : List Int) (w : World) (w0 : IsRowC .u8 w a0 len0 cap0 z0) :
    Calls Try.prog 4 #[.slice a0 len0 cap0] w fun e w' => e = .returned (.bool true) ∧ Below w.heap.size w w' := by
  by_cases hlen : 1048576 < len0
  · clear w0
    go_enter Try.func4, Try.ntmps4
    go_wp2
    go_ret
    exact ⟨rfl, Below.refl _ _⟩
  · have hlen' : decide (1048576 < len0) = false := by simpa using hlen
    go_enter Try.func4, Try.ntmps4
    go_wp2_with fail
    refine (drawFitsSides_any _ _ _ _ _ w0).mono ?_
    rintro e w1 ⟨v, u, xs, bs, rfl, ov, hl4, hb37, ou, hu4, B1⟩
    have HB1 := Lib.hid B1
    have OU := Lib.hid ou
    obtain ⟨A, c, rfl, hl, hmx, -⟩ := id ov.rd
    have HV : Hid (∀ wr, Below w1.heap.size w1 wr → IRd wr (.slice A xs.length c) xs) := Lib.hid (fun wr hb => ov.rd.keep (SameAt.of_below hb))
    obtain ⟨A', c', rfl, hl', hmx'⟩ := (ou.rd bC_len).form
    have HU : Hid (∀ wr, Below w1.heap.size w1 wr → BRd wr (.slice A' bs.length c') bs) := Lib.hid (fun wr hb => (ou.rd bC_len).keep (SameAt.of_below hb))
    clear ov ou B1 w0 hb37
    rcases Bool.eq_false_or_eq_true (bidsB (xs.length : Int) bs) with hk | hk
    · have HK := Lib.hid hk
      obtain ⟨f, hf⟩ : ∃ f, fitB xs (quoF (fun b => b.2.2) bs) = f := ⟨_, rfl⟩
      have HFO := Lib.hid hf
      have HSF : Hid (sfitB xs (sameF (fun b => b.2.2) bs) = f) := Lib.hid ((same_sfit hk (hi_between hk)).trans hf)
      have hq3 := ((bidsB_iff _ _).1 hk).2.1
      clear hk hf
      rcases Bool.eq_false_or_eq_true (sfitB xs bs) with ht | ht
      · have HT := Lib.hid ht
        have HWT := Lib.hid (wide1_fit ht)
        clear ht
        have C1 := Lib.hid (Below.refl w1.heap.size w1)
        go_wp2_with fail
        refine (implFitsSides_any w1 _ _ xs bs (HV.out w1 C1.out) (HU.out w1 C1.out)).mono ?_
        rintro e w2 ⟨rfl, b2⟩
        rw [HT.out]
        have C2 := Lib.hid (below_step C1.out b2 C1.out.size)
        clear b2
        go_wp2_with fail
        refine (specFitsSides_any w2 _ _ xs bs (HV.out w2 C2.out) (HU.out w2 C2.out)).mono ?_
        rintro e w3 ⟨rfl, b3⟩
        rw [HT.out]
        have C3 := Lib.hid (below_step C2.out b3 C2.out.size)
        clear b3
        go_wp2_with fail
        refine (specBidsOk_any w3 (xs.length : Int) _ bs (HU.out w3 C3.out)).mono ?_
        rintro e w4 ⟨rfl, b4⟩
        rw [HK.out]
        have C4 := Lib.hid (below_step C3.out b4 C3.out.size)
        clear b4
        have HUO := Lib.hid (OU.out.keep (SameAt.of_below C4.out))
        go_wp2_with (at_builtin; refine wp_copy13 rfl _ _ rfl w4 _ _ bs rfl rfl HUO.out (by omega) ?_)
        intro v5 w5 o5 b5
        obtain ⟨A5, c5, rfl, hl5, hm5⟩ := (o5.rd bC_len).form
        have HW5 := Lib.hid o5
        have C5 := Lib.hid (below_step C4.out b5 C4.out.size)
        clear o5 b5
        have H0 : Hid (RnRel w5 (sameF (fun b => b.2.2) bs) (quoF (fun b => b.2.2) bs) 0 (.slice (some ⟨w5.heap.size, 0, none⟩) 0 0) (.slice (some ⟨w5.heap.size + 1, 0, none⟩) 0 0) ((w5.alloc (.cells #[] 28)).alloc (.cells #[] 37))) := Lib.hid ⟨rw_start w5, ⟨_, _, rfl⟩, _, _, rfl⟩
        go_wp2_with fail
        go_loopw [7, 8, 9] (fun p q i wr => ∃ k : Nat, i = .int .i64 (k : Int) ∧ k ≤ bs.length ∧ Hid (RnRel w5 (sameF (fun b => b.2.2) bs) (quoF (fun b => b.2.2) bs) k p q wr)) (fun _ _ i _ => bs.length - (intOf i).toNat)
        case atStart => exact ⟨0, rfl, Nat.zero_le _, H0⟩
        case round =>
          obtain ⟨k, rfl, hk, HF⟩ := hrel
          obtain ⟨-, ⟨g0, c0, rfl⟩, g1, c1, rfl⟩ := id HF.out
          clear H0
          have KK := Lib.hid (below_step C5.out HF.out.1.2.2.1 C5.out.size)
          by_cases hlt : k < bs.length
          · have hlt' : (k : Int) < (bs.length : Int) := by omega
            have hk0 : (0 : Int) ≤ (k : Int) := by omega
            obtain ⟨b, off, ⟨e, lo, hi⟩, rfl, hbb, hx, hc0, hc1, hc2⟩ := BRd.at_ (HU.out wr KK.out) hlt
            have hc0 : wr.cell? ⟨b, off + k * 3, none⟩ = some (.int .i64 e) := hc0
            have hc1 : wr.cell? ⟨b, off + k * 3 + 1, none⟩ = some (.int .i64 lo) := hc1
            have hc2 : wr.cell? ⟨b, off + k * 3 + 2, none⟩ = some (.int .i64 hi) := hc2
            have HC : Hid (∀ w', Below w5.heap.size w5 w' → w'.cell? ⟨b, off + k * 3, none⟩ = some (.int .i64 e) ∧ w'.cell? ⟨b, off + k * 3 + 1, none⟩ = some (.int .i64 lo) ∧ w'.cell? ⟨b, off + k * 3 + 2, none⟩ = some (.int .i64 hi)) := Lib.hid (fun w' h => BRd.cell13 (HU.out w' (below_step C5.out h C5.out.size)) hx)
            have HQF := Lib.hid (sameF_at (fun b => b.2.2) hx)
            have HQG := Lib.hid (quoF_at (fun b => b.2.2) hx)
            have hlf : Hid (((sameF (fun b => b.2.2) bs).take k).length = k) := Lib.hid (by rw [List.length_take, sameF_len]; omega)
            have hlg : Hid (((quoF (fun b => b.2.2) bs).take k).length = k) := Lib.hid (by rw [List.length_take, quoF_len]; omega)
            clear hx
            go_wp2_with fail
            have sa := HF.out.1.2.2.1.drew
            have owna := (show BOwn wr.drew w5.heap.size _ _ from HF.out.1.1)
            refine wp_region_held_drew (S := fun w' => Below w5.heap.size w5 w') (by kernel_rfl) sa (fun hHeld => ?_)
            refine take_in (i := 0) (v := ?_) rfl (by kernel_rfl) (fun _ _ _ h => h) rfl ?_ hHeld ?_
            rotate_left
            · intro w' hSw; go_simp; all_goals with_reducible rfl
            try simp only [Act.put, List.setIfInBounds_toArray, List.set_cons_zero, List.set_cons_succ]
            refine take_in (i := 1) (v := ?_) rfl (by kernel_rfl) (fun _ _ _ h => h) rfl ?_ hHeld ?_
            rotate_left
            · intro w' hSw; go_simp; all_goals with_reducible rfl
            try simp only [Act.put, List.setIfInBounds_toArray, List.set_cons_zero, List.set_cons_succ]
            refine take_in (i := 2) (v := ?_) rfl (by kernel_rfl) (fun _ _ _ h => h) rfl ?_ hHeld ?_
            rotate_left
            · intro w' hSw; go_simp; all_goals with_reducible rfl
            try simp only [Act.put, List.setIfInBounds_toArray, List.set_cons_zero, List.set_cons_succ]
            refine take_in (i := 3) (v := ?_) rfl (by kernel_rfl) (fun _ _ _ h => h) rfl ?_ hHeld ?_
            rotate_left
            · intro w' hSw; go_simp; all_goals with_reducible rfl
            try simp only [Act.put, List.setIfInBounds_toArray, List.set_cons_zero, List.set_cons_succ]
            refine take_in (i := 4) (v := ?_) rfl (by kernel_rfl) (fun _ _ _ h => h) rfl ?_ hHeld ?_
            rotate_left
            · intro w' hSw; go_simp; all_goals with_reducible rfl
            try simp only [Act.put, List.setIfInBounds_toArray, List.set_cons_zero, List.set_cons_succ]
            refine take_in (i := 5) (v := ?_) rfl (by kernel_rfl) (fun _ _ _ h => h) rfl ?_ hHeld ?_
            rotate_left
            · intro w' hSw; obtain ⟨d0, d1, d2⟩ := HC.out w' hSw; go_simp; all_goals with_reducible rfl
            try simp only [Act.put, List.setIfInBounds_toArray, List.set_cons_zero, List.set_cons_succ]
            refine take_in (i := 6) (v := ?_) rfl (by kernel_rfl) (fun _ _ _ h => h) rfl ?_ hHeld ?_
            rotate_left
            · intro w' hSw; go_simp; all_goals with_reducible rfl
            try simp only [Act.put, List.setIfInBounds_toArray, List.set_cons_zero, List.set_cons_succ]
            refine take_in (i := 7) (v := ?_) rfl (by kernel_rfl) (fun _ _ _ h => h) rfl ?_ hHeld ?_
            rotate_left
            · intro w' hSw; go_simp; all_goals with_reducible rfl
            try simp only [Act.put, List.setIfInBounds_toArray, List.set_cons_zero, List.set_cons_succ]
            refine take_in (i := 8) (v := ?_) rfl (by kernel_rfl) (fun _ _ _ h => h) rfl ?_ hHeld ?_
            rotate_left
            · intro w' hSw; go_simp; all_goals with_reducible rfl
            try simp only [Act.put, List.setIfInBounds_toArray, List.set_cons_zero, List.set_cons_succ]
            refine take_in (i := 9) (v := ?_) rfl (by kernel_rfl) (fun _ _ _ h => h) rfl ?_ hHeld ?_
            rotate_left
            · intro w' hSw; go_simp; all_goals with_reducible rfl
            try simp only [Act.put, List.setIfInBounds_toArray, List.set_cons_zero, List.set_cons_succ]
            refine take_in (i := 10) (v := ?_) rfl (by kernel_rfl) (fun _ _ _ h => h) rfl ?_ hHeld ?_
            rotate_left
            · intro w' hSw; obtain ⟨d0, d1, d2⟩ := HC.out w' hSw; go_simp; all_goals with_reducible rfl
            try simp only [Act.put, List.setIfInBounds_toArray, List.set_cons_zero, List.set_cons_succ]
            refine take_in (i := 11) (v := ?_) rfl (by kernel_rfl) (fun _ _ _ h => h) rfl ?_ hHeld ?_
            rotate_left
            · intro w' hSw; go_simp; all_goals with_reducible rfl
            try simp only [Act.put, List.setIfInBounds_toArray, List.set_cons_zero, List.set_cons_succ]
            refine take_in (i := 12) (v := ?_) rfl (by kernel_rfl) (fun _ _ _ h => h) rfl ?_ hHeld ?_
            rotate_left
            · intro w' hSw; go_simp; all_goals with_reducible rfl
            try simp only [Act.put, List.setIfInBounds_toArray, List.set_cons_zero, List.set_cons_succ]
            refine take_in (i := 13) (v := ?_) rfl (by kernel_rfl) (fun _ _ _ h => h) rfl ?_ hHeld ?_
            rotate_left
            · intro w' hSw; go_simp; all_goals with_reducible rfl
            try simp only [Act.put, List.setIfInBounds_toArray, List.set_cons_zero, List.set_cons_succ]
            refine take_in (i := 14) (v := ?_) rfl (by kernel_rfl) (fun _ _ _ h => h) rfl ?_ hHeld ?_
            rotate_left
            · intro w' hSw; go_simp; all_goals with_reducible rfl
            try simp only [Act.put, List.setIfInBounds_toArray, List.set_cons_zero, List.set_cons_succ]
            refine take_in (i := 15) (v := ?_) rfl (by kernel_rfl) (fun _ _ _ h => h) rfl ?_ hHeld ?_
            rotate_left
            · intro w' hSw; obtain ⟨d0, d1, d2⟩ := HC.out w' hSw; go_simp; all_goals with_reducible rfl
            try simp only [Act.put, List.setIfInBounds_toArray, List.set_cons_zero, List.set_cons_succ]
            refine take_in (i := 16) (v := ?_) rfl (by kernel_rfl) (fun _ _ _ h => h) rfl ?_ hHeld ?_
            rotate_left
            · intro w' hSw; go_simp; all_goals with_reducible rfl
            try simp only [Act.put, List.setIfInBounds_toArray, List.set_cons_zero, List.set_cons_succ]
            refine ready_one (i := 17) rfl (by kernel_rfl) (fun K hK => ?_)
            go_simp
            have ba : Below w5.heap.size w5 (wr.drew.alloc (.cells #[.int .i64 e, .int .i64 hi, .int .i64 hi] 28)) := sa.alloc sa.size _
            refine hK.out _ (wr.drew.alloc (.cells #[.int .i64 e, .int .i64 hi, .int .i64 hi] 28)) ba (fun hHeld => ?_)
            clear hK K ba
            try simp only [Act.put, List.setIfInBounds_toArray, List.set_cons_zero, List.set_cons_succ]
            refine ready_one (i := 18) rfl (by kernel_rfl) (fun K hK => ?_)
            obtain ⟨ga, ca, xa, hruna, hoa, hga, hda⟩ := run_app_b13 wr.drew w5.heap.size wr.heap.size rfl _ _ k hlf.out e hi hi owna (by omega) sa.size
            refine step_append (s := .tmp 47) (x := .tmp 64) rfl rfl hruna ?_
            have ea : Below w5.heap.size w5 xa := sa.grown hga sa.size (fun g hg' => (World.ownsRow.lt owna g hg').1)
            refine hK.out _ xa ea (fun hHeld => ?_)
            clear hK K hruna
            try simp only [Act.put, List.setIfInBounds_toArray, List.set_cons_zero, List.set_cons_succ]
            refine take_in (i := 19) (v := ?_) rfl (by kernel_rfl) (fun _ _ _ h => h) rfl ?_ hHeld ?_
            rotate_left
            · intro w' hSw; go_simp; all_goals with_reducible rfl
            try simp only [Act.put, List.setIfInBounds_toArray, List.set_cons_zero, List.set_cons_succ]
            refine wpAnyH_done (by kernel_rfl) ?_ _
            have HF2 := Lib.hid (RwRel.bid HF.out.1.drew hoa hga hda)
            clear sa owna hoa hga hda ea HF
            go_wp2_with fail
            have sb := HF2.out.2.2.1.drew
            have ownb := (show QOwn xa.drew w5.heap.size _ _ from HF2.out.2.1)
            refine wp_region_held_drew (S := fun w' => Below w5.heap.size w5 w') (by kernel_rfl) sb (fun hHeld => ?_)
            refine take_in (i := 0) (v := ?_) rfl (by kernel_rfl) (fun _ _ _ h => h) rfl ?_ hHeld ?_
            rotate_left
            · intro w' hSw; go_simp; all_goals with_reducible rfl
            try simp only [Act.put, List.setIfInBounds_toArray, List.set_cons_zero, List.set_cons_succ]
            refine take_in (i := 1) (v := ?_) rfl (by kernel_rfl) (fun _ _ _ h => h) rfl ?_ hHeld ?_
            rotate_left
            · intro w' hSw; go_simp; all_goals with_reducible rfl
            try simp only [Act.put, List.setIfInBounds_toArray, List.set_cons_zero, List.set_cons_succ]
            refine take_in (i := 2) (v := ?_) rfl (by kernel_rfl) (fun _ _ _ h => h) rfl ?_ hHeld ?_
            rotate_left
            · intro w' hSw; go_simp; all_goals with_reducible rfl
            try simp only [Act.put, List.setIfInBounds_toArray, List.set_cons_zero, List.set_cons_succ]
            refine take_in (i := 3) (v := ?_) rfl (by kernel_rfl) (fun _ _ _ h => h) rfl ?_ hHeld ?_
            rotate_left
            · intro w' hSw; go_simp; all_goals with_reducible rfl
            try simp only [Act.put, List.setIfInBounds_toArray, List.set_cons_zero, List.set_cons_succ]
            refine take_in (i := 4) (v := ?_) rfl (by kernel_rfl) (fun _ _ _ h => h) rfl ?_ hHeld ?_
            rotate_left
            · intro w' hSw; go_simp; all_goals with_reducible rfl
            try simp only [Act.put, List.setIfInBounds_toArray, List.set_cons_zero, List.set_cons_succ]
            refine take_in (i := 5) (v := ?_) rfl (by kernel_rfl) (fun _ _ _ h => h) rfl ?_ hHeld ?_
            rotate_left
            · intro w' hSw; obtain ⟨d0, d1, d2⟩ := HC.out w' hSw; go_simp; all_goals with_reducible rfl
            try simp only [Act.put, List.setIfInBounds_toArray, List.set_cons_zero, List.set_cons_succ]
            refine take_in (i := 6) (v := ?_) rfl (by kernel_rfl) (fun _ _ _ h => h) rfl ?_ hHeld ?_
            rotate_left
            · intro w' hSw; go_simp; all_goals with_reducible rfl
            try simp only [Act.put, List.setIfInBounds_toArray, List.set_cons_zero, List.set_cons_succ]
            refine take_in (i := 7) (v := ?_) rfl (by kernel_rfl) (fun _ _ _ h => h) rfl ?_ hHeld ?_
            rotate_left
            · intro w' hSw; go_simp; all_goals with_reducible rfl
            try simp only [Act.put, List.setIfInBounds_toArray, List.set_cons_zero, List.set_cons_succ]
            refine take_in (i := 8) (v := ?_) rfl (by kernel_rfl) (fun _ _ _ h => h) rfl ?_ hHeld ?_
            rotate_left
            · intro w' hSw; go_simp; all_goals with_reducible rfl
            try simp only [Act.put, List.setIfInBounds_toArray, List.set_cons_zero, List.set_cons_succ]
            refine take_in (i := 9) (v := ?_) rfl (by kernel_rfl) (fun _ _ _ h => h) rfl ?_ hHeld ?_
            rotate_left
            · intro w' hSw; go_simp; all_goals with_reducible rfl
            try simp only [Act.put, List.setIfInBounds_toArray, List.set_cons_zero, List.set_cons_succ]
            refine take_in (i := 10) (v := ?_) rfl (by kernel_rfl) (fun _ _ _ h => h) rfl ?_ hHeld ?_
            rotate_left
            · intro w' hSw; obtain ⟨d0, d1, d2⟩ := HC.out w' hSw; go_simp; all_goals with_reducible rfl
            try simp only [Act.put, List.setIfInBounds_toArray, List.set_cons_zero, List.set_cons_succ]
            refine take_in (i := 11) (v := ?_) rfl (by kernel_rfl) (fun _ _ _ h => h) rfl ?_ hHeld ?_
            rotate_left
            · intro w' hSw; go_simp; all_goals with_reducible rfl
            try simp only [Act.put, List.setIfInBounds_toArray, List.set_cons_zero, List.set_cons_succ]
            refine ready_one (i := 12) rfl (by kernel_rfl) (fun K hK => ?_)
            go_simp
            have bb : Below w5.heap.size w5 (xa.drew.alloc (.cells #[.int .i64 e, .int .i64 hi] 37)) := sb.alloc sb.size _
            refine hK.out _ (xa.drew.alloc (.cells #[.int .i64 e, .int .i64 hi] 37)) bb (fun hHeld => ?_)
            clear hK K bb
            try simp only [Act.put, List.setIfInBounds_toArray, List.set_cons_zero, List.set_cons_succ]
            refine ready_one (i := 13) rfl (by kernel_rfl) (fun K hK => ?_)
            obtain ⟨gb, cb, xb, hrunb, hob, hgb, hdb⟩ := run_app_q13 xa.drew w5.heap.size xa.heap.size rfl _ _ k hlg.out e hi ownb (by omega) sb.size
            refine step_append (s := .tmp 66) (x := .tmp 78) rfl rfl hrunb ?_
            have eb : Below w5.heap.size w5 xb := sb.grown hgb sb.size (fun g hg' => (World.ownsRow.lt ownb g hg').1)
            refine hK.out _ xb eb (fun hHeld => ?_)
            clear hK K hrunb
            try simp only [Act.put, List.setIfInBounds_toArray, List.set_cons_zero, List.set_cons_succ]
            refine take_in (i := 14) (v := ?_) rfl (by kernel_rfl) (fun _ _ _ h => h) rfl ?_ hHeld ?_
            rotate_left
            · intro w' hSw; go_simp; all_goals with_reducible rfl
            try simp only [Act.put, List.setIfInBounds_toArray, List.set_cons_zero, List.set_cons_succ]
            refine wpAnyH_done (by kernel_rfl) ?_ _
            have HF3 := Lib.hid (RwRel.quote HF2.out.drew hob hgb hdb)
            clear sb ownb hob hgb hdb eb HF2
            have HN : Hid (RnRel w5 (sameF (fun b => b.2.2) bs) (quoF (fun b => b.2.2) bs) (k + 1) (.slice (some ⟨ga, 0, none⟩) (k + 1) ca) (.slice (some ⟨gb, 0, none⟩) (k + 1) cb) xb) := Lib.hid ⟨by
              rw [List.take_add_one, HQF.out, List.take_add_one, HQG.out]
              exact HF3.out, ⟨_, _, rfl⟩, _, _, rfl⟩
            clear HF3
            go_wp2_with fail
            go_roundw
            case rel => exact ⟨k + 1, by go_num, by omega, HN⟩
            case measure => simp [intOf]; omega
          · obtain rfl : k = bs.length := by omega
            have hlt' : decide ((bs.length : Int) < (bs.length : Int)) = false := by simp
            by_cases hlen0 : 0 < bs.length
            · have hlen0' : (0 : Int) < (bs.length : Int) := by omega
              obtain ⟨b, off, ⟨e, lo, hi⟩, rfl, hbb, hx, -, -, -⟩ := BRd.at_ (HU.out wr KK.out) (k := 0) hlen0
              have HC : Hid (∀ w', Below w1.heap.size w1 w' → w'.cell? ⟨b, off, none⟩ = some (.int .i64 e) ∧ w'.cell? ⟨b, off + 1, none⟩ = some (.int .i64 lo) ∧ w'.cell? ⟨b, off + 2, none⟩ = some (.int .i64 hi)) := Lib.hid (fun w' h => by have := BRd.cell13 (HU.out w' h) hx; simpa using this)
              have HWS : Hid (bs.set 0 (e, 0, hi) = wide1 bs) := Lib.hid (wide1_set hx)
              clear hx hbb
              obtain ⟨g5, rfl⟩ : ∃ g5, A5 = some ⟨g5, 0, none⟩ := by
                rcases HW5.out.2 with ⟨e0, h0⟩ | ⟨g, cap, cur, e0, -⟩
                · omega
                · exact ⟨g, by injection e0⟩
              have HWW : Hid (BOwn wr w4.heap.size (.slice (some ⟨g5, 0, none⟩) bs.length c5) bs) := Lib.hid (HW5.out.keep (SameAt.of_below HF.out.1.2.2.1))
              obtain ⟨hg4, hg5⟩ := HW5.out.ge g5 rfl
              have z4 := C4.out.size
              obtain ⟨hf0, x0, ho0⟩ := HWW.out.old bC_len rfl hlen0 (j := 0) (by decide)
              obtain ⟨hf1, x1, ho1⟩ := HWW.out.old bC_len rfl hlen0 (j := 1) (by decide)
              obtain ⟨hf2, x2, ho2⟩ := HWW.out.old bC_len rfl hlen0 (j := 2) (by decide)
              simp only [Nat.zero_mul, Nat.zero_add] at hf0 ho0 hf1 ho1 hf2 ho2
              obtain ⟨ow, gw⟩ := GOwn.set3 bC_len HWW.out (k := 0) hlen0 (x := (e, 0, hi)) (v0 := .int .i64 e) (v1 := .int .i64 0) (v2 := .int .i64 hi) rfl
              simp only [Nat.zero_mul, Nat.zero_add] at ow gw
              have bw : Below w1.heap.size w1 (((wr.setCell ⟨g5, 0, none⟩ (.int .i64 e)).setCell ⟨g5, 1, none⟩ (.int .i64 0)).setCell ⟨g5, 2, none⟩ (.int .i64 hi)) := KK.out.grown gw KK.out.size (fun k hk => by have h1 : g5 = k := Option.some.inj hk; omega)
              rw [HWS.out] at ow
              have HWI0 := Lib.hid ((ow.rd bC_len).keep (w' := (((wr.setCell ⟨g5, 0, none⟩ (.int .i64 e)).setCell ⟨g5, 1, none⟩ (.int .i64 0)).setCell ⟨g5, 2, none⟩ (.int .i64 hi)).drew) (SameAt.of_below (Below.refl _ _).drew))
              have HF0' := Lib.hid ((HF.out.1.1.rd bC_len).keep (SameAt.of_grown gw (.inr (fun e => by have h1 := (HF.out.1.1.ge g0 rfl).1; have h2 : g0 = g5 := Option.some.inj e; omega))) |>.keep (w' := (((wr.setCell ⟨g5, 0, none⟩ (.int .i64 e)).setCell ⟨g5, 1, none⟩ (.int .i64 0)).setCell ⟨g5, 2, none⟩ (.int .i64 hi)).drew) (SameAt.of_below (Below.refl _ _).drew))
              have HG0' := Lib.hid ((HF.out.1.2.1.rd qC_len).keep (SameAt.of_grown gw (.inr (fun e => by have h1 := (HF.out.1.2.1.ge g1 rfl).1; have h2 : g1 = g5 := Option.some.inj e; omega))) |>.keep (w' := (((wr.setCell ⟨g5, 0, none⟩ (.int .i64 e)).setCell ⟨g5, 1, none⟩ (.int .i64 0)).setCell ⟨g5, 2, none⟩ (.int .i64 hi)).drew) (SameAt.of_below (Below.refl _ _).drew))
              have BW := Lib.hid bw.drew
              clear ow gw bw hg4 hg5 z4 HF
              go_wp2_with fail
              have sz := KK.out.drew
              refine wp_region_held_drew (S := fun w' => Below w1.heap.size w1 w') (by kernel_rfl) sz (fun hHeld => ?_)
              refine take_in (i := 0) (v := ?_) rfl (by kernel_rfl) (fun _ _ _ h => h) rfl ?_ hHeld ?_
              rotate_left
              · intro w' hSw; go_simp; all_goals with_reducible rfl
              try simp only [Act.put, List.setIfInBounds_toArray, List.set_cons_zero, List.set_cons_succ]
              refine take_in (i := 1) (v := ?_) rfl (by kernel_rfl) (fun _ _ _ h => h) rfl ?_ hHeld ?_
              rotate_left
              · intro w' hSw; go_simp; all_goals with_reducible rfl
              try simp only [Act.put, List.setIfInBounds_toArray, List.set_cons_zero, List.set_cons_succ]
              refine take_in (i := 2) (v := ?_) rfl (by kernel_rfl) (fun _ _ _ h => h) rfl ?_ hHeld ?_
              rotate_left
              · intro w' hSw; go_simp; all_goals with_reducible rfl
              try simp only [Act.put, List.setIfInBounds_toArray, List.set_cons_zero, List.set_cons_succ]
              refine take_in (i := 3) (v := ?_) rfl (by kernel_rfl) (fun _ _ _ h => h) rfl ?_ hHeld ?_
              rotate_left
              · intro w' hSw; go_simp; all_goals with_reducible rfl
              try simp only [Act.put, List.setIfInBounds_toArray, List.set_cons_zero, List.set_cons_succ]
              refine take_in (i := 4) (v := ?_) rfl (by kernel_rfl) (fun _ _ _ h => h) rfl ?_ hHeld ?_
              rotate_left
              · intro w' hSw; obtain ⟨d0, d1, d2⟩ := HC.out w' hSw; go_simp; all_goals with_reducible rfl
              try simp only [Act.put, List.setIfInBounds_toArray, List.set_cons_zero, List.set_cons_succ]
              refine take_in (i := 5) (v := ?_) rfl (by kernel_rfl) (fun _ _ _ h => h) rfl ?_ hHeld ?_
              rotate_left
              · intro w' hSw; go_simp; all_goals with_reducible rfl
              try simp only [Act.put, List.setIfInBounds_toArray, List.set_cons_zero, List.set_cons_succ]
              refine take_in (i := 6) (v := ?_) rfl (by kernel_rfl) (fun _ _ _ h => h) rfl ?_ hHeld ?_
              rotate_left
              · intro w' hSw; go_simp; all_goals with_reducible rfl
              try simp only [Act.put, List.setIfInBounds_toArray, List.set_cons_zero, List.set_cons_succ]
              refine take_in (i := 7) (v := ?_) rfl (by kernel_rfl) (fun _ _ _ h => h) rfl ?_ hHeld ?_
              rotate_left
              · intro w' hSw; go_simp; all_goals with_reducible rfl
              try simp only [Act.put, List.setIfInBounds_toArray, List.set_cons_zero, List.set_cons_succ]
              refine take_in (i := 8) (v := ?_) rfl (by kernel_rfl) (fun _ _ _ h => h) rfl ?_ hHeld ?_
              rotate_left
              · intro w' hSw; obtain ⟨d0, d1, d2⟩ := HC.out w' hSw; go_simp; all_goals with_reducible rfl
              try simp only [Act.put, List.setIfInBounds_toArray, List.set_cons_zero, List.set_cons_succ]
              refine take_in (i := 9) (v := ?_) rfl (by kernel_rfl) (fun _ _ _ h => h) rfl ?_ hHeld ?_
              rotate_left
              · intro w' hSw; go_simp; all_goals with_reducible rfl
              try simp only [Act.put, List.setIfInBounds_toArray, List.set_cons_zero, List.set_cons_succ]
              refine take_in (i := 10) (v := ?_) rfl (by kernel_rfl) (fun _ _ _ h => h) rfl ?_ hHeld ?_
              rotate_left
              · intro w' hSw; go_simp; all_goals with_reducible rfl
              try simp only [Act.put, List.setIfInBounds_toArray, List.set_cons_zero, List.set_cons_succ]
              refine ready_one (i := 11) rfl (by kernel_rfl) (fun K hK => ?_)
              go_simp
              refine hK.out _ _ BW.out (fun hHeld => ?_)
              clear hK K
              try simp only [Act.put, List.setIfInBounds_toArray, List.set_cons_zero, List.set_cons_succ]
              refine wpAnyH_done (by kernel_rfl) ?_ _
              clear hf0 hf1 hf2 ho0 ho1 ho2 sz hHeld
              generalize (((wr.setCell ⟨g5, 0, none⟩ (.int .i64 e)).setCell ⟨g5, 1, none⟩ (.int .i64 0)).setCell ⟨g5, 2, none⟩ (.int .i64 hi)).drew = wz at *
              have CZ := BW
              have HWI := HWI0
              have HWF : Hid (BRd wz (.slice (some ⟨g0, 0, none⟩) bs.length c0) (sameF (fun b => b.2.2) bs)) := Lib.hid (by
                have h := HF0'.out
                rwa [← sameF_len (fun b => b.2.2) bs, List.take_length, sameF_len] at h)
              have HWG : Hid (QRd wz (.slice (some ⟨g1, 0, none⟩) bs.length c1) (quoF (fun b => b.2.2) bs)) := Lib.hid (by
                have h := HG0'.out
                rwa [← quoF_len (fun b => b.2.2) bs, List.take_length, quoF_len] at h)
              clear BW HWI0 HF0' HG0'
              go_wp2_with fail
              refine (implFitsSides_any wz _ _ xs (wide1 bs) (HV.out wz CZ.out) HWI.out).mono ?_
              rintro e w8 ⟨rfl, b8⟩
              rw [HWT.out]
              have C8 := Lib.hid (below_step CZ.out b8 CZ.out.size)
              have HWF8 := Lib.hid (HWF.out.keep (SameAt.of_below b8))
              have HWG8 := Lib.hid (HWG.out.keep (SameAt.of_below b8))
              clear b8
              go_wp2_with fail
              refine (implFitsSides_any w8 _ _ xs _ (HV.out w8 C8.out) HWF8.out).mono ?_
              rintro e w9 ⟨rfl, b9⟩
              rw [HSF.out]
              have C9 := Lib.hid (below_step C8.out b9 C8.out.size)
              have HWG9 := Lib.hid (HWG8.out.keep (SameAt.of_below b9))
              clear b9
              go_wp2_with fail
              refine (implFitsOk_any w9 _ _ xs _ (HV.out w9 C9.out) HWG9.out).mono ?_
              rintro e w10 ⟨rfl, b10⟩
              rw [HFO.out]
              have C10 := Lib.hid (below_step C9.out b10 C9.out.size)
              clear b10
              cases f
              all_goals
                go_wp2_with fail
                refine (alive_any _).mono ?_
                rintro e w' ⟨rfl, rfl⟩
                go_wp2_with fail
                go_ret
                exact ⟨rfl, below_step HB1.out C10.out HB1.out.size⟩
            · obtain rfl : bs = [] := List.eq_nil_of_length_eq_zero (by omega)
              have CZ := KK
              have HWI : Hid (BRd wr (.slice A5 0 c5) (wide1 [])) := Lib.hid ((HW5.out.keep (SameAt.of_below HF.out.1.2.2.1)).rd bC_len)
              have HWF : Hid (BRd wr (.slice (some ⟨g0, 0, none⟩) 0 c0) (sameF (fun b => b.2.2) [])) := Lib.hid (HF.out.1.1.rd bC_len)
              have HWG : Hid (QRd wr (.slice (some ⟨g1, 0, none⟩) 0 c1) (quoF (fun b => b.2.2) [])) := Lib.hid (HF.out.1.2.1.rd qC_len)
              clear HF
              generalize wr = wz at *
              simp only [List.length_nil] at *
              go_wp2_with fail
              refine (implFitsSides_any wz _ _ xs (wide1 []) (HV.out wz CZ.out) HWI.out).mono ?_
              rintro e w8 ⟨rfl, b8⟩
              rw [HWT.out]
              have C8 := Lib.hid (below_step CZ.out b8 CZ.out.size)
              have HWF8 := Lib.hid (HWF.out.keep (SameAt.of_below b8))
              have HWG8 := Lib.hid (HWG.out.keep (SameAt.of_below b8))
              clear b8
              go_wp2_with fail
              refine (implFitsSides_any w8 _ _ xs _ (HV.out w8 C8.out) HWF8.out).mono ?_
              rintro e w9 ⟨rfl, b9⟩
              rw [HSF.out]
              have C9 := Lib.hid (below_step C8.out b9 C8.out.size)
              have HWG9 := Lib.hid (HWG8.out.keep (SameAt.of_below b9))
              clear b9
              go_wp2_with fail
              refine (implFitsOk_any w9 _ _ xs _ (HV.out w9 C9.out) HWG9.out).mono ?_
              rintro e w10 ⟨rfl, b10⟩
              rw [HFO.out]
              have C10 := Lib.hid (below_step C9.out b10 C9.out.size)
              clear b10
              cases f
              all_goals
                go_wp2_with fail
                refine (alive_any _).mono ?_
                rintro e w' ⟨rfl, rfl⟩
                go_wp2_with fail
                go_ret
                exact ⟨rfl, below_step HB1.out C10.out HB1.out.size⟩
      · have HT := Lib.hid ht
        clear ht
        have C1 := Lib.hid (Below.refl w1.heap.size w1)
        go_wp2_with fail
        refine (implFitsSides_any w1 _ _ xs bs (HV.out w1 C1.out) (HU.out w1 C1.out)).mono ?_
        rintro e w2 ⟨rfl, b2⟩
        rw [HT.out]
        have C2 := Lib.hid (below_step C1.out b2 C1.out.size)
        clear b2
        go_wp2_with fail
        refine (specFitsSides_any w2 _ _ xs bs (HV.out w2 C2.out) (HU.out w2 C2.out)).mono ?_
        rintro e w3 ⟨rfl, b3⟩
        rw [HT.out]
        have C3 := Lib.hid (below_step C2.out b3 C2.out.size)
        clear b3
        go_wp2_with fail
        refine (specBidsOk_any w3 (xs.length : Int) _ bs (HU.out w3 C3.out)).mono ?_
        rintro e w4 ⟨rfl, b4⟩
        rw [HK.out]
        have C4 := Lib.hid (below_step C3.out b4 C3.out.size)
        clear b4
        have HUO := Lib.hid (OU.out.keep (SameAt.of_below C4.out))
        go_wp2_with (at_builtin; refine wp_copy13 rfl _ _ rfl w4 _ _ bs rfl rfl HUO.out (by omega) ?_)
        intro v5 w5 o5 b5
        obtain ⟨A5, c5, rfl, hl5, hm5⟩ := (o5.rd bC_len).form
        have HW5 := Lib.hid o5
        have C5 := Lib.hid (below_step C4.out b5 C4.out.size)
        clear o5 b5
        have H0 : Hid (RnRel w5 (sameF (fun b => b.2.2) bs) (quoF (fun b => b.2.2) bs) 0 (.slice (some ⟨w5.heap.size, 0, none⟩) 0 0) (.slice (some ⟨w5.heap.size + 1, 0, none⟩) 0 0) ((w5.alloc (.cells #[] 28)).alloc (.cells #[] 37))) := Lib.hid ⟨rw_start w5, ⟨_, _, rfl⟩, _, _, rfl⟩
        go_wp2_with fail
        go_loopw [7, 8, 9] (fun p q i wr => ∃ k : Nat, i = .int .i64 (k : Int) ∧ k ≤ bs.length ∧ Hid (RnRel w5 (sameF (fun b => b.2.2) bs) (quoF (fun b => b.2.2) bs) k p q wr)) (fun _ _ i _ => bs.length - (intOf i).toNat)
        case atStart => exact ⟨0, rfl, Nat.zero_le _, H0⟩
        case round =>
          obtain ⟨k, rfl, hk, HF⟩ := hrel
          obtain ⟨-, ⟨g0, c0, rfl⟩, g1, c1, rfl⟩ := id HF.out
          clear H0
          have KK := Lib.hid (below_step C5.out HF.out.1.2.2.1 C5.out.size)
          by_cases hlt : k < bs.length
          · have hlt' : (k : Int) < (bs.length : Int) := by omega
            have hk0 : (0 : Int) ≤ (k : Int) := by omega
            obtain ⟨b, off, ⟨e, lo, hi⟩, rfl, hbb, hx, hc0, hc1, hc2⟩ := BRd.at_ (HU.out wr KK.out) hlt
            have hc0 : wr.cell? ⟨b, off + k * 3, none⟩ = some (.int .i64 e) := hc0
            have hc1 : wr.cell? ⟨b, off + k * 3 + 1, none⟩ = some (.int .i64 lo) := hc1
            have hc2 : wr.cell? ⟨b, off + k * 3 + 2, none⟩ = some (.int .i64 hi) := hc2
            have HC : Hid (∀ w', Below w5.heap.size w5 w' → w'.cell? ⟨b, off + k * 3, none⟩ = some (.int .i64 e) ∧ w'.cell? ⟨b, off + k * 3 + 1, none⟩ = some (.int .i64 lo) ∧ w'.cell? ⟨b, off + k * 3 + 2, none⟩ = some (.int .i64 hi)) := Lib.hid (fun w' h => BRd.cell13 (HU.out w' (below_step C5.out h C5.out.size)) hx)
            have HQF := Lib.hid (sameF_at (fun b => b.2.2) hx)
            have HQG := Lib.hid (quoF_at (fun b => b.2.2) hx)
            have hlf : Hid (((sameF (fun b => b.2.2) bs).take k).length = k) := Lib.hid (by rw [List.length_take, sameF_len]; omega)
            have hlg : Hid (((quoF (fun b => b.2.2) bs).take k).length = k) := Lib.hid (by rw [List.length_take, quoF_len]; omega)
            clear hx
            go_wp2_with fail
            have sa := HF.out.1.2.2.1.drew
            have owna := (show BOwn wr.drew w5.heap.size _ _ from HF.out.1.1)
            refine wp_region_held_drew (S := fun w' => Below w5.heap.size w5 w') (by kernel_rfl) sa (fun hHeld => ?_)
            refine take_in (i := 0) (v := ?_) rfl (by kernel_rfl) (fun _ _ _ h => h) rfl ?_ hHeld ?_
            rotate_left
            · intro w' hSw; go_simp; all_goals with_reducible rfl
            try simp only [Act.put, List.setIfInBounds_toArray, List.set_cons_zero, List.set_cons_succ]
            refine take_in (i := 1) (v := ?_) rfl (by kernel_rfl) (fun _ _ _ h => h) rfl ?_ hHeld ?_
            rotate_left
            · intro w' hSw; go_simp; all_goals with_reducible rfl
            try simp only [Act.put, List.setIfInBounds_toArray, List.set_cons_zero, List.set_cons_succ]
            refine take_in (i := 2) (v := ?_) rfl (by kernel_rfl) (fun _ _ _ h => h) rfl ?_ hHeld ?_
            rotate_left
            · intro w' hSw; go_simp; all_goals with_reducible rfl
            try simp only [Act.put, List.setIfInBounds_toArray, List.set_cons_zero, List.set_cons_succ]
            refine take_in (i := 3) (v := ?_) rfl (by kernel_rfl) (fun _ _ _ h => h) rfl ?_ hHeld ?_
            rotate_left
            · intro w' hSw; go_simp; all_goals with_reducible rfl
            try simp only [Act.put, List.setIfInBounds_toArray, List.set_cons_zero, List.set_cons_succ]
            refine take_in (i := 4) (v := ?_) rfl (by kernel_rfl) (fun _ _ _ h => h) rfl ?_ hHeld ?_
            rotate_left
            · intro w' hSw; go_simp; all_goals with_reducible rfl
            try simp only [Act.put, List.setIfInBounds_toArray, List.set_cons_zero, List.set_cons_succ]
            refine take_in (i := 5) (v := ?_) rfl (by kernel_rfl) (fun _ _ _ h => h) rfl ?_ hHeld ?_
            rotate_left
            · intro w' hSw; obtain ⟨d0, d1, d2⟩ := HC.out w' hSw; go_simp; all_goals with_reducible rfl
            try simp only [Act.put, List.setIfInBounds_toArray, List.set_cons_zero, List.set_cons_succ]
            refine take_in (i := 6) (v := ?_) rfl (by kernel_rfl) (fun _ _ _ h => h) rfl ?_ hHeld ?_
            rotate_left
            · intro w' hSw; go_simp; all_goals with_reducible rfl
            try simp only [Act.put, List.setIfInBounds_toArray, List.set_cons_zero, List.set_cons_succ]
            refine take_in (i := 7) (v := ?_) rfl (by kernel_rfl) (fun _ _ _ h => h) rfl ?_ hHeld ?_
            rotate_left
            · intro w' hSw; go_simp; all_goals with_reducible rfl
            try simp only [Act.put, List.setIfInBounds_toArray, List.set_cons_zero, List.set_cons_succ]
            refine take_in (i := 8) (v := ?_) rfl (by kernel_rfl) (fun _ _ _ h => h) rfl ?_ hHeld ?_
            rotate_left
            · intro w' hSw; go_simp; all_goals with_reducible rfl
            try simp only [Act.put, List.setIfInBounds_toArray, List.set_cons_zero, List.set_cons_succ]
            refine take_in (i := 9) (v := ?_) rfl (by kernel_rfl) (fun _ _ _ h => h) rfl ?_ hHeld ?_
            rotate_left
            · intro w' hSw; go_simp; all_goals with_reducible rfl
            try simp only [Act.put, List.setIfInBounds_toArray, List.set_cons_zero, List.set_cons_succ]
            refine take_in (i := 10) (v := ?_) rfl (by kernel_rfl) (fun _ _ _ h => h) rfl ?_ hHeld ?_
            rotate_left
            · intro w' hSw; obtain ⟨d0, d1, d2⟩ := HC.out w' hSw; go_simp; all_goals with_reducible rfl
            try simp only [Act.put, List.setIfInBounds_toArray, List.set_cons_zero, List.set_cons_succ]
            refine take_in (i := 11) (v := ?_) rfl (by kernel_rfl) (fun _ _ _ h => h) rfl ?_ hHeld ?_
            rotate_left
            · intro w' hSw; go_simp; all_goals with_reducible rfl
            try simp only [Act.put, List.setIfInBounds_toArray, List.set_cons_zero, List.set_cons_succ]
            refine take_in (i := 12) (v := ?_) rfl (by kernel_rfl) (fun _ _ _ h => h) rfl ?_ hHeld ?_
            rotate_left
            · intro w' hSw; go_simp; all_goals with_reducible rfl
            try simp only [Act.put, List.setIfInBounds_toArray, List.set_cons_zero, List.set_cons_succ]
            refine take_in (i := 13) (v := ?_) rfl (by kernel_rfl) (fun _ _ _ h => h) rfl ?_ hHeld ?_
            rotate_left
            · intro w' hSw; go_simp; all_goals with_reducible rfl
            try simp only [Act.put, List.setIfInBounds_toArray, List.set_cons_zero, List.set_cons_succ]
            refine take_in (i := 14) (v := ?_) rfl (by kernel_rfl) (fun _ _ _ h => h) rfl ?_ hHeld ?_
            rotate_left
            · intro w' hSw; go_simp; all_goals with_reducible rfl
            try simp only [Act.put, List.setIfInBounds_toArray, List.set_cons_zero, List.set_cons_succ]
            refine take_in (i := 15) (v := ?_) rfl (by kernel_rfl) (fun _ _ _ h => h) rfl ?_ hHeld ?_
            rotate_left
            · intro w' hSw; obtain ⟨d0, d1, d2⟩ := HC.out w' hSw; go_simp; all_goals with_reducible rfl
            try simp only [Act.put, List.setIfInBounds_toArray, List.set_cons_zero, List.set_cons_succ]
            refine take_in (i := 16) (v := ?_) rfl (by kernel_rfl) (fun _ _ _ h => h) rfl ?_ hHeld ?_
            rotate_left
            · intro w' hSw; go_simp; all_goals with_reducible rfl
            try simp only [Act.put, List.setIfInBounds_toArray, List.set_cons_zero, List.set_cons_succ]
            refine ready_one (i := 17) rfl (by kernel_rfl) (fun K hK => ?_)
            go_simp
            have ba : Below w5.heap.size w5 (wr.drew.alloc (.cells #[.int .i64 e, .int .i64 hi, .int .i64 hi] 28)) := sa.alloc sa.size _
            refine hK.out _ (wr.drew.alloc (.cells #[.int .i64 e, .int .i64 hi, .int .i64 hi] 28)) ba (fun hHeld => ?_)
            clear hK K ba
            try simp only [Act.put, List.setIfInBounds_toArray, List.set_cons_zero, List.set_cons_succ]
            refine ready_one (i := 18) rfl (by kernel_rfl) (fun K hK => ?_)
            obtain ⟨ga, ca, xa, hruna, hoa, hga, hda⟩ := run_app_b13 wr.drew w5.heap.size wr.heap.size rfl _ _ k hlf.out e hi hi owna (by omega) sa.size
            refine step_append (s := .tmp 47) (x := .tmp 64) rfl rfl hruna ?_
            have ea : Below w5.heap.size w5 xa := sa.grown hga sa.size (fun g hg' => (World.ownsRow.lt owna g hg').1)
            refine hK.out _ xa ea (fun hHeld => ?_)
            clear hK K hruna
            try simp only [Act.put, List.setIfInBounds_toArray, List.set_cons_zero, List.set_cons_succ]
            refine take_in (i := 19) (v := ?_) rfl (by kernel_rfl) (fun _ _ _ h => h) rfl ?_ hHeld ?_
            rotate_left
            · intro w' hSw; go_simp; all_goals with_reducible rfl
            try simp only [Act.put, List.setIfInBounds_toArray, List.set_cons_zero, List.set_cons_succ]
            refine wpAnyH_done (by kernel_rfl) ?_ _
            have HF2 := Lib.hid (RwRel.bid HF.out.1.drew hoa hga hda)
            clear sa owna hoa hga hda ea HF
            go_wp2_with fail
            have sb := HF2.out.2.2.1.drew
            have ownb := (show QOwn xa.drew w5.heap.size _ _ from HF2.out.2.1)
            refine wp_region_held_drew (S := fun w' => Below w5.heap.size w5 w') (by kernel_rfl) sb (fun hHeld => ?_)
            refine take_in (i := 0) (v := ?_) rfl (by kernel_rfl) (fun _ _ _ h => h) rfl ?_ hHeld ?_
            rotate_left
            · intro w' hSw; go_simp; all_goals with_reducible rfl
            try simp only [Act.put, List.setIfInBounds_toArray, List.set_cons_zero, List.set_cons_succ]
            refine take_in (i := 1) (v := ?_) rfl (by kernel_rfl) (fun _ _ _ h => h) rfl ?_ hHeld ?_
            rotate_left
            · intro w' hSw; go_simp; all_goals with_reducible rfl
            try simp only [Act.put, List.setIfInBounds_toArray, List.set_cons_zero, List.set_cons_succ]
            refine take_in (i := 2) (v := ?_) rfl (by kernel_rfl) (fun _ _ _ h => h) rfl ?_ hHeld ?_
            rotate_left
            · intro w' hSw; go_simp; all_goals with_reducible rfl
            try simp only [Act.put, List.setIfInBounds_toArray, List.set_cons_zero, List.set_cons_succ]
            refine take_in (i := 3) (v := ?_) rfl (by kernel_rfl) (fun _ _ _ h => h) rfl ?_ hHeld ?_
            rotate_left
            · intro w' hSw; go_simp; all_goals with_reducible rfl
            try simp only [Act.put, List.setIfInBounds_toArray, List.set_cons_zero, List.set_cons_succ]
            refine take_in (i := 4) (v := ?_) rfl (by kernel_rfl) (fun _ _ _ h => h) rfl ?_ hHeld ?_
            rotate_left
            · intro w' hSw; go_simp; all_goals with_reducible rfl
            try simp only [Act.put, List.setIfInBounds_toArray, List.set_cons_zero, List.set_cons_succ]
            refine take_in (i := 5) (v := ?_) rfl (by kernel_rfl) (fun _ _ _ h => h) rfl ?_ hHeld ?_
            rotate_left
            · intro w' hSw; obtain ⟨d0, d1, d2⟩ := HC.out w' hSw; go_simp; all_goals with_reducible rfl
            try simp only [Act.put, List.setIfInBounds_toArray, List.set_cons_zero, List.set_cons_succ]
            refine take_in (i := 6) (v := ?_) rfl (by kernel_rfl) (fun _ _ _ h => h) rfl ?_ hHeld ?_
            rotate_left
            · intro w' hSw; go_simp; all_goals with_reducible rfl
            try simp only [Act.put, List.setIfInBounds_toArray, List.set_cons_zero, List.set_cons_succ]
            refine take_in (i := 7) (v := ?_) rfl (by kernel_rfl) (fun _ _ _ h => h) rfl ?_ hHeld ?_
            rotate_left
            · intro w' hSw; go_simp; all_goals with_reducible rfl
            try simp only [Act.put, List.setIfInBounds_toArray, List.set_cons_zero, List.set_cons_succ]
            refine take_in (i := 8) (v := ?_) rfl (by kernel_rfl) (fun _ _ _ h => h) rfl ?_ hHeld ?_
            rotate_left
            · intro w' hSw; go_simp; all_goals with_reducible rfl
            try simp only [Act.put, List.setIfInBounds_toArray, List.set_cons_zero, List.set_cons_succ]
            refine take_in (i := 9) (v := ?_) rfl (by kernel_rfl) (fun _ _ _ h => h) rfl ?_ hHeld ?_
            rotate_left
            · intro w' hSw; go_simp; all_goals with_reducible rfl
            try simp only [Act.put, List.setIfInBounds_toArray, List.set_cons_zero, List.set_cons_succ]
            refine take_in (i := 10) (v := ?_) rfl (by kernel_rfl) (fun _ _ _ h => h) rfl ?_ hHeld ?_
            rotate_left
            · intro w' hSw; obtain ⟨d0, d1, d2⟩ := HC.out w' hSw; go_simp; all_goals with_reducible rfl
            try simp only [Act.put, List.setIfInBounds_toArray, List.set_cons_zero, List.set_cons_succ]
            refine take_in (i := 11) (v := ?_) rfl (by kernel_rfl) (fun _ _ _ h => h) rfl ?_ hHeld ?_
            rotate_left
            · intro w' hSw; go_simp; all_goals with_reducible rfl
            try simp only [Act.put, List.setIfInBounds_toArray, List.set_cons_zero, List.set_cons_succ]
            refine ready_one (i := 12) rfl (by kernel_rfl) (fun K hK => ?_)
            go_simp
            have bb : Below w5.heap.size w5 (xa.drew.alloc (.cells #[.int .i64 e, .int .i64 hi] 37)) := sb.alloc sb.size _
            refine hK.out _ (xa.drew.alloc (.cells #[.int .i64 e, .int .i64 hi] 37)) bb (fun hHeld => ?_)
            clear hK K bb
            try simp only [Act.put, List.setIfInBounds_toArray, List.set_cons_zero, List.set_cons_succ]
            refine ready_one (i := 13) rfl (by kernel_rfl) (fun K hK => ?_)
            obtain ⟨gb, cb, xb, hrunb, hob, hgb, hdb⟩ := run_app_q13 xa.drew w5.heap.size xa.heap.size rfl _ _ k hlg.out e hi ownb (by omega) sb.size
            refine step_append (s := .tmp 66) (x := .tmp 78) rfl rfl hrunb ?_
            have eb : Below w5.heap.size w5 xb := sb.grown hgb sb.size (fun g hg' => (World.ownsRow.lt ownb g hg').1)
            refine hK.out _ xb eb (fun hHeld => ?_)
            clear hK K hrunb
            try simp only [Act.put, List.setIfInBounds_toArray, List.set_cons_zero, List.set_cons_succ]
            refine take_in (i := 14) (v := ?_) rfl (by kernel_rfl) (fun _ _ _ h => h) rfl ?_ hHeld ?_
            rotate_left
            · intro w' hSw; go_simp; all_goals with_reducible rfl
            try simp only [Act.put, List.setIfInBounds_toArray, List.set_cons_zero, List.set_cons_succ]
            refine wpAnyH_done (by kernel_rfl) ?_ _
            have HF3 := Lib.hid (RwRel.quote HF2.out.drew hob hgb hdb)
            clear sb ownb hob hgb hdb eb HF2
            have HN : Hid (RnRel w5 (sameF (fun b => b.2.2) bs) (quoF (fun b => b.2.2) bs) (k + 1) (.slice (some ⟨ga, 0, none⟩) (k + 1) ca) (.slice (some ⟨gb, 0, none⟩) (k + 1) cb) xb) := Lib.hid ⟨by
              rw [List.take_add_one, HQF.out, List.take_add_one, HQG.out]
              exact HF3.out, ⟨_, _, rfl⟩, _, _, rfl⟩
            clear HF3
            go_wp2_with fail
            go_roundw
            case rel => exact ⟨k + 1, by go_num, by omega, HN⟩
            case measure => simp [intOf]; omega
          · obtain rfl : k = bs.length := by omega
            have hlt' : decide ((bs.length : Int) < (bs.length : Int)) = false := by simp
            by_cases hlen0 : 0 < bs.length
            · have hlen0' : (0 : Int) < (bs.length : Int) := by omega
              obtain ⟨b, off, ⟨e, lo, hi⟩, rfl, hbb, hx, -, -, -⟩ := BRd.at_ (HU.out wr KK.out) (k := 0) hlen0
              have HC : Hid (∀ w', Below w1.heap.size w1 w' → w'.cell? ⟨b, off, none⟩ = some (.int .i64 e) ∧ w'.cell? ⟨b, off + 1, none⟩ = some (.int .i64 lo) ∧ w'.cell? ⟨b, off + 2, none⟩ = some (.int .i64 hi)) := Lib.hid (fun w' h => by have := BRd.cell13 (HU.out w' h) hx; simpa using this)
              have HWS : Hid (bs.set 0 (e, 0, hi) = wide1 bs) := Lib.hid (wide1_set hx)
              clear hx hbb
              obtain ⟨g5, rfl⟩ : ∃ g5, A5 = some ⟨g5, 0, none⟩ := by
                rcases HW5.out.2 with ⟨e0, h0⟩ | ⟨g, cap, cur, e0, -⟩
                · omega
                · exact ⟨g, by injection e0⟩
              have HWW : Hid (BOwn wr w4.heap.size (.slice (some ⟨g5, 0, none⟩) bs.length c5) bs) := Lib.hid (HW5.out.keep (SameAt.of_below HF.out.1.2.2.1))
              obtain ⟨hg4, hg5⟩ := HW5.out.ge g5 rfl
              have z4 := C4.out.size
              obtain ⟨hf0, x0, ho0⟩ := HWW.out.old bC_len rfl hlen0 (j := 0) (by decide)
              obtain ⟨hf1, x1, ho1⟩ := HWW.out.old bC_len rfl hlen0 (j := 1) (by decide)
              obtain ⟨hf2, x2, ho2⟩ := HWW.out.old bC_len rfl hlen0 (j := 2) (by decide)
              simp only [Nat.zero_mul, Nat.zero_add] at hf0 ho0 hf1 ho1 hf2 ho2
              obtain ⟨ow, gw⟩ := GOwn.set3 bC_len HWW.out (k := 0) hlen0 (x := (e, 0, hi)) (v0 := .int .i64 e) (v1 := .int .i64 0) (v2 := .int .i64 hi) rfl
              simp only [Nat.zero_mul, Nat.zero_add] at ow gw
              have bw : Below w1.heap.size w1 (((wr.setCell ⟨g5, 0, none⟩ (.int .i64 e)).setCell ⟨g5, 1, none⟩ (.int .i64 0)).setCell ⟨g5, 2, none⟩ (.int .i64 hi)) := KK.out.grown gw KK.out.size (fun k hk => by have h1 : g5 = k := Option.some.inj hk; omega)
              rw [HWS.out] at ow
              have HWI0 := Lib.hid ((ow.rd bC_len).keep (w' := (((wr.setCell ⟨g5, 0, none⟩ (.int .i64 e)).setCell ⟨g5, 1, none⟩ (.int .i64 0)).setCell ⟨g5, 2, none⟩ (.int .i64 hi)).drew) (SameAt.of_below (Below.refl _ _).drew))
              have HF0' := Lib.hid ((HF.out.1.1.rd bC_len).keep (SameAt.of_grown gw (.inr (fun e => by have h1 := (HF.out.1.1.ge g0 rfl).1; have h2 : g0 = g5 := Option.some.inj e; omega))) |>.keep (w' := (((wr.setCell ⟨g5, 0, none⟩ (.int .i64 e)).setCell ⟨g5, 1, none⟩ (.int .i64 0)).setCell ⟨g5, 2, none⟩ (.int .i64 hi)).drew) (SameAt.of_below (Below.refl _ _).drew))
              have HG0' := Lib.hid ((HF.out.1.2.1.rd qC_len).keep (SameAt.of_grown gw (.inr (fun e => by have h1 := (HF.out.1.2.1.ge g1 rfl).1; have h2 : g1 = g5 := Option.some.inj e; omega))) |>.keep (w' := (((wr.setCell ⟨g5, 0, none⟩ (.int .i64 e)).setCell ⟨g5, 1, none⟩ (.int .i64 0)).setCell ⟨g5, 2, none⟩ (.int .i64 hi)).drew) (SameAt.of_below (Below.refl _ _).drew))
              have BW := Lib.hid bw.drew
              clear ow gw bw hg4 hg5 z4 HF
              go_wp2_with fail
              have sz := KK.out.drew
              refine wp_region_held_drew (S := fun w' => Below w1.heap.size w1 w') (by kernel_rfl) sz (fun hHeld => ?_)
              refine take_in (i := 0) (v := ?_) rfl (by kernel_rfl) (fun _ _ _ h => h) rfl ?_ hHeld ?_
              rotate_left
              · intro w' hSw; go_simp; all_goals with_reducible rfl
              try simp only [Act.put, List.setIfInBounds_toArray, List.set_cons_zero, List.set_cons_succ]
              refine take_in (i := 1) (v := ?_) rfl (by kernel_rfl) (fun _ _ _ h => h) rfl ?_ hHeld ?_
              rotate_left
              · intro w' hSw; go_simp; all_goals with_reducible rfl
              try simp only [Act.put, List.setIfInBounds_toArray, List.set_cons_zero, List.set_cons_succ]
              refine take_in (i := 2) (v := ?_) rfl (by kernel_rfl) (fun _ _ _ h => h) rfl ?_ hHeld ?_
              rotate_left
              · intro w' hSw; go_simp; all_goals with_reducible rfl
              try simp only [Act.put, List.setIfInBounds_toArray, List.set_cons_zero, List.set_cons_succ]
              refine take_in (i := 3) (v := ?_) rfl (by kernel_rfl) (fun _ _ _ h => h) rfl ?_ hHeld ?_
              rotate_left
              · intro w' hSw; go_simp; all_goals with_reducible rfl
              try simp only [Act.put, List.setIfInBounds_toArray, List.set_cons_zero, List.set_cons_succ]
              refine take_in (i := 4) (v := ?_) rfl (by kernel_rfl) (fun _ _ _ h => h) rfl ?_ hHeld ?_
              rotate_left
              · intro w' hSw; obtain ⟨d0, d1, d2⟩ := HC.out w' hSw; go_simp; all_goals with_reducible rfl
              try simp only [Act.put, List.setIfInBounds_toArray, List.set_cons_zero, List.set_cons_succ]
              refine take_in (i := 5) (v := ?_) rfl (by kernel_rfl) (fun _ _ _ h => h) rfl ?_ hHeld ?_
              rotate_left
              · intro w' hSw; go_simp; all_goals with_reducible rfl
              try simp only [Act.put, List.setIfInBounds_toArray, List.set_cons_zero, List.set_cons_succ]
              refine take_in (i := 6) (v := ?_) rfl (by kernel_rfl) (fun _ _ _ h => h) rfl ?_ hHeld ?_
              rotate_left
              · intro w' hSw; go_simp; all_goals with_reducible rfl
              try simp only [Act.put, List.setIfInBounds_toArray, List.set_cons_zero, List.set_cons_succ]
              refine take_in (i := 7) (v := ?_) rfl (by kernel_rfl) (fun _ _ _ h => h) rfl ?_ hHeld ?_
              rotate_left
              · intro w' hSw; go_simp; all_goals with_reducible rfl
              try simp only [Act.put, List.setIfInBounds_toArray, List.set_cons_zero, List.set_cons_succ]
              refine take_in (i := 8) (v := ?_) rfl (by kernel_rfl) (fun _ _ _ h => h) rfl ?_ hHeld ?_
              rotate_left
              · intro w' hSw; obtain ⟨d0, d1, d2⟩ := HC.out w' hSw; go_simp; all_goals with_reducible rfl
              try simp only [Act.put, List.setIfInBounds_toArray, List.set_cons_zero, List.set_cons_succ]
              refine take_in (i := 9) (v := ?_) rfl (by kernel_rfl) (fun _ _ _ h => h) rfl ?_ hHeld ?_
              rotate_left
              · intro w' hSw; go_simp; all_goals with_reducible rfl
              try simp only [Act.put, List.setIfInBounds_toArray, List.set_cons_zero, List.set_cons_succ]
              refine take_in (i := 10) (v := ?_) rfl (by kernel_rfl) (fun _ _ _ h => h) rfl ?_ hHeld ?_
              rotate_left
              · intro w' hSw; go_simp; all_goals with_reducible rfl
              try simp only [Act.put, List.setIfInBounds_toArray, List.set_cons_zero, List.set_cons_succ]
              refine ready_one (i := 11) rfl (by kernel_rfl) (fun K hK => ?_)
              go_simp
              refine hK.out _ _ BW.out (fun hHeld => ?_)
              clear hK K
              try simp only [Act.put, List.setIfInBounds_toArray, List.set_cons_zero, List.set_cons_succ]
              refine wpAnyH_done (by kernel_rfl) ?_ _
              clear hf0 hf1 hf2 ho0 ho1 ho2 sz hHeld
              generalize (((wr.setCell ⟨g5, 0, none⟩ (.int .i64 e)).setCell ⟨g5, 1, none⟩ (.int .i64 0)).setCell ⟨g5, 2, none⟩ (.int .i64 hi)).drew = wz at *
              have CZ := BW
              have HWI := HWI0
              have HWF : Hid (BRd wz (.slice (some ⟨g0, 0, none⟩) bs.length c0) (sameF (fun b => b.2.2) bs)) := Lib.hid (by
                have h := HF0'.out
                rwa [← sameF_len (fun b => b.2.2) bs, List.take_length, sameF_len] at h)
              have HWG : Hid (QRd wz (.slice (some ⟨g1, 0, none⟩) bs.length c1) (quoF (fun b => b.2.2) bs)) := Lib.hid (by
                have h := HG0'.out
                rwa [← quoF_len (fun b => b.2.2) bs, List.take_length, quoF_len] at h)
              clear BW HWI0 HF0' HG0'
              have C8 := CZ
              have HWF8 := HWF
              have HWG8 := HWG
              go_wp2_with fail
              refine (implFitsSides_any wz _ _ xs _ (HV.out wz C8.out) HWF8.out).mono ?_
              rintro e w9 ⟨rfl, b9⟩
              rw [HSF.out]
              have C9 := Lib.hid (below_step C8.out b9 C8.out.size)
              have HWG9 := Lib.hid (HWG8.out.keep (SameAt.of_below b9))
              clear b9
              go_wp2_with fail
              refine (implFitsOk_any w9 _ _ xs _ (HV.out w9 C9.out) HWG9.out).mono ?_
              rintro e w10 ⟨rfl, b10⟩
              rw [HFO.out]
              have C10 := Lib.hid (below_step C9.out b10 C9.out.size)
              clear b10
              cases f
              all_goals
                go_wp2_with fail
                refine (alive_any _).mono ?_
                rintro e w' ⟨rfl, rfl⟩
                go_wp2_with fail
                go_ret
                exact ⟨rfl, below_step HB1.out C10.out HB1.out.size⟩
            · obtain rfl : bs = [] := List.eq_nil_of_length_eq_zero (by omega)
              have CZ := KK
              have HWI : Hid (BRd wr (.slice A5 0 c5) (wide1 [])) := Lib.hid ((HW5.out.keep (SameAt.of_below HF.out.1.2.2.1)).rd bC_len)
              have HWF : Hid (BRd wr (.slice (some ⟨g0, 0, none⟩) 0 c0) (sameF (fun b => b.2.2) [])) := Lib.hid (HF.out.1.1.rd bC_len)
              have HWG : Hid (QRd wr (.slice (some ⟨g1, 0, none⟩) 0 c1) (quoF (fun b => b.2.2) [])) := Lib.hid (HF.out.1.2.1.rd qC_len)
              clear HF
              generalize wr = wz at *
              simp only [List.length_nil] at *
              have C8 := CZ
              have HWF8 := HWF
              have HWG8 := HWG
              go_wp2_with fail
              refine (implFitsSides_any wz _ _ xs _ (HV.out wz C8.out) HWF8.out).mono ?_
              rintro e w9 ⟨rfl, b9⟩
              rw [HSF.out]
              have C9 := Lib.hid (below_step C8.out b9 C8.out.size)
              have HWG9 := Lib.hid (HWG8.out.keep (SameAt.of_below b9))
              clear b9
              go_wp2_with fail
              refine (implFitsOk_any w9 _ _ xs _ (HV.out w9 C9.out) HWG9.out).mono ?_
              rintro e w10 ⟨rfl, b10⟩
              rw [HFO.out]
              have C10 := Lib.hid (below_step C9.out b10 C9.out.size)
              clear b10
              cases f
              all_goals
                go_wp2_with fail
                refine (alive_any _).mono ?_
                rintro e w' ⟨rfl, rfl⟩
                go_wp2_with fail
                go_ret
                exact ⟨rfl, below_step HB1.out C10.out HB1.out.size⟩
    · have HK := Lib.hid hk
      have HT := Lib.hid (sfit_nob hk)
      clear hk
      have C1 := Lib.hid (Below.refl w1.heap.size w1)
      go_wp2_with fail
      refine (implFitsSides_any w1 _ _ xs bs (HV.out w1 C1.out) (HU.out w1 C1.out)).mono ?_
      rintro e w2 ⟨rfl, b2⟩
      rw [HT.out]
      have C2 := Lib.hid (below_step C1.out b2 C1.out.size)
      clear b2
      go_wp2_with fail
      refine (specFitsSides_any w2 _ _ xs bs (HV.out w2 C2.out) (HU.out w2 C2.out)).mono ?_
      rintro e w3 ⟨rfl, b3⟩
      rw [HT.out]
      have C3 := Lib.hid (below_step C2.out b3 C2.out.size)
      clear b3
      go_wp2_with fail
      refine (specBidsOk_any w3 (xs.length : Int) _ bs (HU.out w3 C3.out)).mono ?_
      rintro e w4 ⟨rfl, b4⟩
      rw [HK.out]
      have C4 := Lib.hid (below_step C3.out b4 C3.out.size)
      clear b4
      go_wp2_with fail
      refine (alive_any _).mono ?_
      rintro e w' ⟨rfl, rfl⟩

      go_wp2_with fail
      go_ret
      exact ⟨rfl, below_step HB1.out C4.out HB1.out.size⟩

end Go.Proofs.Ytodmgcbcacblbaa
