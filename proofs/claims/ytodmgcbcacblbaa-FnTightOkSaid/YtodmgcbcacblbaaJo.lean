/- The program's contracts of chapter 13: BidsOk, FitsSides, SidesFair; its walk over the measures that fit bids. Conditions: rows that read as lists. (gen_jp.py) -/
import Derived.Test.YtodmgcbcacblbaaJb
import Derived.Test.YtodmgcbcacblbaaNg
import Derived.Test.YtodmgcbcacblbaaNj
namespace Go.Proofs.Ytodmgcbcacblbaa
open Go.RowKit
set_option linter.unusedVariables false

theorem ball_step {F : Bt → Bool} {bs : List Bt} {k : Nat} {b : Bt} (hx : bs[k]? = some b) : (bs.take (k + 1)).all F = ((bs.take k).all F && F b) := by
  rw [List.take_add_one, hx]
  simp

/-- the cells of a bid that was handed over -/
theorem bbox_cells {W wr : World} {q : Bt} (h : Below (W.alloc (bBlk q)).heap.size (W.alloc (bBlk q)) wr) :
    wr.cell? ⟨W.heap.size, 0, none⟩ = some (.int .i64 q.1) ∧ wr.cell? ⟨W.heap.size, 1, none⟩ = some (.int .i64 q.2.1) ∧ wr.cell? ⟨W.heap.size, 2, none⟩ = some (.int .i64 q.2.2) := by
  have hb := h.block W.heap.size (by simp)
  have hn : (W.alloc (bBlk q)).heap[W.heap.size]? = some (bBlk q) := heap_alloc_new W _
  have hB : Blk wr W.heap.size 28 #[.int .i64 q.1, .int .i64 q.2.1, .int .i64 q.2.2] := hb.trans hn
  exact ⟨hB.cell 0, hB.cell 1, hB.cell 2⟩

set_option maxHeartbeats 4000000 in
theorem bidOk_any (W : World) (n : Int) (q : Bt) :
    Calls Try.prog 60 #[.int .i64 n, bV q] W (BoolPost (bidB n q) W) := by
  obtain ⟨e, lo, hi⟩ := q
  have HBw : Hid (Below W.heap.size W (W.alloc (bBlk (e, lo, hi)))) := Lib.hid ((Below.refl _ _).alloc (Nat.le_refl _) _)
  unfold bV
  unfold bBlk at HBw
  rcases Bool.eq_false_or_eq_true (evB n e) with h | h
  · by_cases h1 : 0 ≤ lo
    · by_cases h2 : lo ≤ hi
      · by_cases h3 : hi ≤ 6
        · have HR : Hid (bidB n (e, lo, hi) = true) := Lib.hid ((bidB_iff _ _).2 ⟨h, ⟨h1, h2⟩, h3⟩)
          go_enter Try.func60, Try.ntmps60
          go_wp2_with fail
          refine (implEventOk_any _ _ _).mono ?_
          rintro r w' ⟨rfl, rfl⟩
          rw [h]
          go_wp2_with fail
          go_ret
          exact ⟨ret_bool (by first | exact HR.out.symm | exact (decide_eq_false (by omega)).trans HR.out.symm), HBw.out⟩
        · have HR : Hid (bidB n (e, lo, hi) = false) := Lib.hid (by rw [← Bool.not_eq_true]; intro hb; exact h3 ((bidB_iff _ _).1 hb).2.2)
          go_enter Try.func60, Try.ntmps60
          go_wp2_with fail
          refine (implEventOk_any _ _ _).mono ?_
          rintro r w' ⟨rfl, rfl⟩
          rw [h]
          go_wp2_with fail
          go_ret
          exact ⟨ret_bool (by first | exact HR.out.symm | exact (decide_eq_false (by omega)).trans HR.out.symm), HBw.out⟩
      · have HR : Hid (bidB n (e, lo, hi) = false) := Lib.hid (by rw [← Bool.not_eq_true]; intro hb; exact h2 ((bidB_iff _ _).1 hb).2.1.2)
        go_enter Try.func60, Try.ntmps60
        go_wp2_with fail
        refine (implEventOk_any _ _ _).mono ?_
        rintro r w' ⟨rfl, rfl⟩
        rw [h]
        go_wp2_with fail
        go_ret
        exact ⟨ret_bool (by first | exact HR.out.symm | exact (decide_eq_false (by omega)).trans HR.out.symm), HBw.out⟩
    · have HR : Hid (bidB n (e, lo, hi) = false) := Lib.hid (by rw [← Bool.not_eq_true]; intro hb; exact h1 ((bidB_iff _ _).1 hb).2.1.1)
      go_enter Try.func60, Try.ntmps60
      go_wp2_with fail
      refine (implEventOk_any _ _ _).mono ?_
      rintro r w' ⟨rfl, rfl⟩
      rw [h]
      go_wp2_with fail
      go_ret
      exact ⟨ret_bool (by first | exact HR.out.symm | exact (decide_eq_false (by omega)).trans HR.out.symm), HBw.out⟩
  · have HR : Hid (bidB n (e, lo, hi) = false) := Lib.hid (by rw [← Bool.not_eq_true]; intro hb; have := ((bidB_iff _ _).1 hb).1; rw [show (e, lo, hi).1 = e from rfl, h] at this; cases this)
    go_enter Try.func60, Try.ntmps60
    go_wp2_with fail
    refine (implEventOk_any _ _ _).mono ?_
    rintro r w' ⟨rfl, rfl⟩
    rw [h]
    go_wp2_with fail
    go_ret
    exact ⟨ret_bool (by first | exact HR.out.symm | exact (decide_eq_false (by omega)).trans HR.out.symm), HBw.out⟩

set_option maxHeartbeats 2000000 in
theorem bidsTest_any (W : World) (so : Bool) (q : Bt) (B : Nat) (n : Int) (hB : W.cell? ⟨B, 0, none⟩ = some (.int .i64 n)) :
    Calls Try.prog 59 #[.bool so, bV q, .pointer (some ⟨B, 0, none⟩)] W (BoolPost (so && bidB n q) W) := by
  obtain ⟨e, lo, hi⟩ := q
  have HBw : Hid (Below W.heap.size W (W.alloc (bBlk (e, lo, hi)))) := Lib.hid ((Below.refl _ _).alloc (Nat.le_refl _) _)
  have hcb : (W.alloc (.cells #[.int .i64 e, .int .i64 lo, .int .i64 hi] 28)).cell? ⟨B, 0, none⟩ = some (.int .i64 n) := old_cell _ hB
  unfold bBlk at HBw
  clear hB
  cases so
  · unfold bV
    go_enter Try.func59, Try.ntmps59
    go_wp2_with fail
    go_ret
    exact ⟨ret_bool rfl, HBw.out⟩
  · obtain ⟨t, ht⟩ : ∃ t, bidB n (e, lo, hi) = t := ⟨_, rfl⟩
    have HC := Lib.hid (fun W' => bidOk_any W' n (e, lo, hi))
    rw [ht] at HC
    rw [ht]
    clear ht
    unfold bV at HC ⊢
    go_enter Try.func59, Try.ntmps59
    go_wp2_with fail
    refine (HC.out _).mono ?_
    rintro r w2 ⟨rfl, b2⟩
    have HB2 := Lib.hid (below_step HBw.out b2 HBw.out.size)
    clear b2
    go_wp2_with fail
    go_ret
    exact ⟨ret_bool (by simp), HB2.out⟩

set_option maxHeartbeats 4000000 in
theorem foldBids_any (w : World) (u : Value) (bs : List Bt) (n : Int) (B : Nat) (hu : BRd w u bs) (hT : ∀ A so q, Below w.heap.size w A → q ∈ bs → Calls Try.prog 59 #[.bool so, bV q, .pointer (some ⟨B, 0, none⟩)] A (BoolPost (so && bidB n q) A)) :
    Calls Try.prog 58 #[u, .bool true, .func (.func 59) #[] #[.pointer (some ⟨B, 0, none⟩)]] w (BoolPost (bs.all (bidB n)) w) := by
  obtain ⟨A, c, rfl, hl, hmx⟩ := hu.form
  have HT := Lib.hid hT
  have HU := Lib.hid hu
  clear hu hT
  go_enter Try.func58, Try.ntmps58
  go_wp2_with fail
  go_loopw [1, 11] (fun t i wr => ∃ (k : Nat) (b : Bool), i = .int .i64 (k : Int) ∧ k ≤ bs.length ∧ t = .bool b ∧ Hid (b = (bs.take k).all (bidB n)) ∧ Hid (Below w.heap.size w wr)) (fun _ i _ => bs.length - (intOf i).toNat)
  case atStart => exact ⟨0, true, rfl, Nat.zero_le _, rfl, Lib.hid (by simp), Lib.hid (Below.refl _ _)⟩
  case round =>
    obtain ⟨k, t, rfl, hk, rfl, HN, HB⟩ := hrel
    by_cases hlt : k < bs.length
    · obtain ⟨b, off, ⟨e, lo, hi⟩, rfl, -, hx, hc0, hc1, hc2⟩ := BRd.at_ (HU.out.keep (SameAt.of_below HB.out)) hlt
      have HX := Lib.hid hx
      clear hx
      go_wp2_with fail
      refine (HT.out _ t (e, lo, hi) (HB.out.alloc HB.out.size _) (List.mem_of_getElem? HX.out)).mono ?_
      rintro r w2 ⟨rfl, b2⟩
      have HB2 : Hid (Below w.heap.size w w2) := Lib.hid (below_step (HB.out.alloc HB.out.size _) b2 (by simp; have := HB.out.size; omega))
      clear b2 hc0 hc1 hc2
      obtain ⟨t2, ht2⟩ : ∃ t2, (t && (bidB n) (e, lo, hi)) = t2 := ⟨_, rfl⟩
      rw [ht2]
      have HT2 := Lib.hid ht2
      clear ht2
      go_wp2_with fail
      go_roundw
      case rel => exact ⟨k + 1, t2, by go_num, by omega, rfl, Lib.hid (by rw [ball_step HX.out, ← HN.out]; exact HT2.out.symm), HB2⟩
      case measure => simp [intOf]; omega
    · go_wp2_with fail
      go_ret
      exact ⟨ret_bool (by have := HN.out; rw [List.take_of_length_le (by omega)] at this; exact this), HB.out⟩

theorem bids_parts (n : Int) (bs : List Bt) : bidsB n bs = (wokB n && (decide (bs.length ≤ 3) && bs.all (bidB n))) := by
  rw [Bool.eq_iff_iff, bidsB_iff]
  simp only [Bool.and_eq_true, wokB_iff, decide_eq_true_eq, List.all_eq_true]

set_option maxHeartbeats 4000000 in
theorem implBidsOk_any (w : World) (n : Int) (v : Value) (bs : List Bt) (hv : BRd w v bs) :
    Calls Try.prog 18 #[.int .i64 n, v] w (BoolPost (bidsB n bs) w) := by
  obtain ⟨A, c, rfl, hl, hmx⟩ := id hv.form
  have hbP := bids_parts n bs
  obtain ⟨w1, hw1⟩ : ∃ w1, w.alloc (.cells #[.int .i64 n] 3) = w1 := ⟨_, rfl⟩
  have hB1 : Below w.heap.size w w1 := by rw [← hw1]; exact (Below.refl _ _).alloc (Nat.le_refl _) _
  have hc0 : w1.cell? ⟨w.heap.size, 0, none⟩ = some (.int .i64 n) := by rw [← hw1]; exact (new_cell w _ _).1
  have hsz : w1.heap.size = w.heap.size + 1 := by rw [← hw1]; simp
  have HV := Lib.hid (hv.keep (SameAt.of_below hB1))
  have HB1 := Lib.hid hB1
  have HW1 := Lib.hid hw1
  have HC : Hid (∀ A' so q, Below w1.heap.size w1 A' → q ∈ bs → Calls Try.prog 59 #[.bool so, bV q, .pointer (some ⟨w.heap.size, 0, none⟩)] A' (BoolPost (so && bidB n q) A')) := Lib.hid (fun A' so q h _ => bidsTest_any A' so q _ n ((h.cell (p := ⟨w.heap.size, 0, none⟩) (show w.heap.size < w1.heap.size by omega)).trans hc0))
  clear hv hB1 hw1 hsz
  rcases Bool.eq_false_or_eq_true (wokB n) with h | h
  · by_cases hk : bs.length ≤ 3
    · have HP : Hid (bidsB n bs = bs.all (bidB n)) := Lib.hid (by rw [hbP, h, decide_eq_true hk]; rfl)
      have hk' : (bs.length : Int) ≤ 3 := by omega
      clear hbP
      go_enter Try.func18, Try.ntmps18
      go_wp2_with fail
      rw [HW1.out]
      refine (worldsOk_any _ _).mono ?_
      rintro r w' ⟨rfl, rfl⟩
      rw [h]
      go_wp2_with fail
      refine (foldBids_any w1 _ bs n w.heap.size HV.out HC.out).mono ?_
      rintro r w2 ⟨rfl, b2⟩
      have HB2 := Lib.hid (below_step HB1.out b2 HB1.out.size)
      clear b2
      go_wp2_with fail
      go_ret
      exact ⟨ret_bool HP.out.symm, HB2.out⟩
    · have HP : Hid (bidsB n bs = false) := Lib.hid (by rw [hbP, h, decide_eq_false hk]; rfl)
      have hk' : ¬ ((bs.length : Int) ≤ 3) := by omega
      clear hbP
      go_enter Try.func18, Try.ntmps18
      go_wp2_with fail
      rw [HW1.out]
      refine (worldsOk_any _ _).mono ?_
      rintro r w' ⟨rfl, rfl⟩
      rw [h]
      go_wp2_with fail
      go_ret
      exact ⟨ret_bool HP.out.symm, HB1.out⟩
  · have HP : Hid (bidsB n bs = false) := Lib.hid (by rw [hbP, h]; rfl)
    clear hbP
    go_enter Try.func18, Try.ntmps18
    go_wp2_with fail
    rw [HW1.out]
    refine (worldsOk_any _ _).mono ?_
    rintro r w' ⟨rfl, rfl⟩
    rw [h]
    go_wp2_with fail
    go_ret
    exact ⟨ret_bool HP.out.symm, HB1.out⟩

/-! the measures that fit bids -/

/-- what a bid asks of a measure -/
def sfit1 (m : List Int) (b : Bt) : Bool := decide (b.2.1 * 36 ≤ onI m b.1 * 6) && decide (onI m b.1 * 6 ≤ b.2.2 * 36)

theorem sfit_all (m : List Int) (bs : List Bt) : sfitI m bs = bs.all (sfit1 m) := rfl

set_option maxHeartbeats 8000000 in
theorem sfitTest_any (W : World) (so : Bool) (q : Bt) (B : Nat) (v : Value) (m : List Int) (hB : W.cell? ⟨B, 0, none⟩ = some v) (hv : IRd W v m) (hm : Grs m) (hq : (0 ≤ q.1 ∧ q.1 ≤ 15) ∧ (0 ≤ q.2.1 ∧ q.2.1 ≤ 6) ∧ (0 ≤ q.2.2 ∧ q.2.2 ≤ 6)) :
    Calls Try.prog 105 #[.bool so, bV q, .pointer (some ⟨B, 0, none⟩)] W (BoolPost (so && sfit1 m q) W) := by
  obtain ⟨e, lo, hi⟩ := q
  obtain ⟨⟨e1, e2⟩, ⟨l1, l2⟩, h1, h2⟩ := hq
  have e1 : 0 ≤ e := e1
  have e2 : e ≤ 15 := e2
  have l1 : 0 ≤ lo := l1
  have l2 : lo ≤ 6 := l2
  have h1 : 0 ≤ hi := h1
  have h2 : hi ≤ 6 := h2
  have hlt : B < W.heap.size := World.block_lt_of_cell? W _ hB
  obtain ⟨w1, hw1⟩ : ∃ w1, W.alloc (bBlk (e, lo, hi)) = w1 := ⟨_, rfl⟩
  have HBw : Hid (Below W.heap.size W w1) := Lib.hid (by rw [← hw1]; exact (Below.refl _ _).alloc (Nat.le_refl _) _)
  have HC : Hid (w1.cell? ⟨W.heap.size, 0, none⟩ = some (.int .i64 e) ∧ w1.cell? ⟨W.heap.size, 1, none⟩ = some (.int .i64 lo) ∧ w1.cell? ⟨W.heap.size, 2, none⟩ = some (.int .i64 hi)) := Lib.hid (by rw [← hw1]; exact bbox_cells (W := W) (q := (e, lo, hi)) (Below.refl _ _))
  have HCB : Hid (w1.cell? ⟨B, 0, none⟩ = some v) := Lib.hid ((HBw.out.cell (p := ⟨B, 0, none⟩) hlt).trans hB)
  have HV := Lib.hid (hv.keep (SameAt.of_below HBw.out))
  have HM := Lib.hid hm
  unfold bBlk at hw1
  have HW1 := Lib.hid hw1
  obtain ⟨A, c, rfl, hl, hmx, -⟩ := id hv
  clear hB hv hm hlt hw1
  obtain ⟨N, hN⟩ : ∃ N, onI m e = N := ⟨_, rfl⟩
  obtain ⟨n1, n2⟩ : 0 ≤ N ∧ N ≤ 144 := by
    have := grs_on HM.out e m.length
    rw [List.take_length, hN] at this
    exact this
  have HNN := Lib.hid hN
  have HR : Hid (sfit1 m (e, lo, hi) = (decide (lo * 36 ≤ N * 6) && decide (N * 6 ≤ hi * 36))) := Lib.hid (by rw [← hN]; rfl)
  clear hN
  have hw6 : IntKind.i64.wrap (N * 6) = N * 6 := IntWalk.i64_in _ (by omega)
  have hw36 : IntKind.i64.wrap (lo * 36) = lo * 36 := IntWalk.i64_in _ (by omega)
  have hw37 : IntKind.i64.wrap (hi * 36) = hi * 36 := IntWalk.i64_in _ (by omega)
  unfold bV
  have hcb : (W.alloc (.cells #[.int .i64 e, .int .i64 lo, .int .i64 hi] 28)).cell? ⟨B, 0, none⟩ = some (.slice A m.length c) := by rw [HW1.out]; exact HCB.out
  rw [← HW1.out] at HV HBw
  clear HC HCB HW1
  rcases Bool.eq_false_or_eq_true (decide (lo * 36 ≤ N * 6)) with t1 | t1
  all_goals
    rcases Bool.eq_false_or_eq_true (decide (N * 6 ≤ hi * 36)) with t2 | t2
    all_goals
      have HT := Lib.hid HR.out
      rw [t1, t2] at HT
      have u1 := t1
      have u2 := t2
      simp only [decide_eq_true_eq, decide_eq_false_iff_not] at u1 u2
      cases so
      all_goals
        go_enter Try.func105, Try.ntmps105
        go_wp2_with fail
        refine (implGrains_any _ _ m e HV.out HM.out e1 e2).mono ?_
        rintro r w3 ⟨rfl, rfl⟩
        rw [HNN.out]
        go_wp2_with fail
        go_ret
        exact ⟨ret_bool (by rw [HT.out]; rfl), HBw.out⟩

set_option maxHeartbeats 4000000 in
theorem foldSides_any (w : World) (u : Value) (bs : List Bt) (m : List Int) (B : Nat) (hu : BRd w u bs) (hT : ∀ A so q, Below w.heap.size w A → q ∈ bs → Calls Try.prog 105 #[.bool so, bV q, .pointer (some ⟨B, 0, none⟩)] A (BoolPost (so && sfit1 m q) A)) :
    Calls Try.prog 58 #[u, .bool true, .func (.func 105) #[] #[.pointer (some ⟨B, 0, none⟩)]] w (BoolPost (bs.all (sfit1 m)) w) := by
  obtain ⟨A, c, rfl, hl, hmx⟩ := hu.form
  have HT := Lib.hid hT
  have HU := Lib.hid hu
  clear hu hT
  go_enter Try.func58, Try.ntmps58
  go_wp2_with fail
  go_loopw [1, 11] (fun t i wr => ∃ (k : Nat) (b : Bool), i = .int .i64 (k : Int) ∧ k ≤ bs.length ∧ t = .bool b ∧ Hid (b = (bs.take k).all (sfit1 m)) ∧ Hid (Below w.heap.size w wr)) (fun _ i _ => bs.length - (intOf i).toNat)
  case atStart => exact ⟨0, true, rfl, Nat.zero_le _, rfl, Lib.hid (by simp), Lib.hid (Below.refl _ _)⟩
  case round =>
    obtain ⟨k, t, rfl, hk, rfl, HN, HB⟩ := hrel
    by_cases hlt : k < bs.length
    · obtain ⟨b, off, ⟨e, lo, hi⟩, rfl, -, hx, hc0, hc1, hc2⟩ := BRd.at_ (HU.out.keep (SameAt.of_below HB.out)) hlt
      have HX := Lib.hid hx
      clear hx
      go_wp2_with fail
      refine (HT.out _ t (e, lo, hi) (HB.out.alloc HB.out.size _) (List.mem_of_getElem? HX.out)).mono ?_
      rintro r w2 ⟨rfl, b2⟩
      have HB2 : Hid (Below w.heap.size w w2) := Lib.hid (below_step (HB.out.alloc HB.out.size _) b2 (by simp; have := HB.out.size; omega))
      clear b2 hc0 hc1 hc2
      obtain ⟨t2, ht2⟩ : ∃ t2, (t && (sfit1 m) (e, lo, hi)) = t2 := ⟨_, rfl⟩
      rw [ht2]
      have HT2 := Lib.hid ht2
      clear ht2
      go_wp2_with fail
      go_roundw
      case rel => exact ⟨k + 1, t2, by go_num, by omega, rfl, Lib.hid (by rw [ball_step HX.out, ← HN.out]; exact HT2.out.symm), HB2⟩
      case measure => simp [intOf]; omega
    · go_wp2_with fail
      go_ret
      exact ⟨ret_bool (by have := HN.out; rw [List.take_of_length_le (by omega)] at this; exact this), HB.out⟩

set_option maxHeartbeats 4000000 in
theorem fitsSides_any (w : World) (v u : Value) (m : List Int) (bs : List Bt) (hv : IRd w v m) (hu : BRd w u bs) (hm : Grs m) (hq : Bids bs) :
    Calls Try.prog 67 #[v, u] w (BoolPost (sfitI m bs) w) := by
  obtain ⟨A, c, rfl, hl, hmx, -⟩ := id hv
  obtain ⟨A2, c2, rfl, hl2, hmx2⟩ := hu.form
  rw [sfit_all]
  obtain ⟨w1, hw1⟩ : ∃ w1, w.alloc (.cells #[.slice A m.length c] 31) = w1 := ⟨_, rfl⟩
  have hB1 : Below w.heap.size w w1 := by rw [← hw1]; exact (Below.refl _ _).alloc (Nat.le_refl _) _
  have hc0 : w1.cell? ⟨w.heap.size, 0, none⟩ = some (.slice A m.length c) := by rw [← hw1]; exact (new_cell w _ _).1
  have hsz : w1.heap.size = w.heap.size + 1 := by rw [← hw1]; simp
  have hV1 := hv.keep (SameAt.of_below hB1)
  have HU := Lib.hid (hu.keep (SameAt.of_below hB1))
  have HB1 := Lib.hid hB1
  have HW1 := Lib.hid hw1
  have HC : Hid (∀ A' so q, Below w1.heap.size w1 A' → q ∈ bs → Calls Try.prog 105 #[.bool so, bV q, .pointer (some ⟨w.heap.size, 0, none⟩)] A' (BoolPost (so && sfit1 m q) A')) := Lib.hid (fun A' so q h hmem => sfitTest_any A' so q _ _ m ((h.cell (p := ⟨w.heap.size, 0, none⟩) (show w.heap.size < w1.heap.size by omega)).trans hc0) (hV1.keep (SameAt.of_below h)) hm (hq q hmem))
  clear hv hB1 hw1 hsz hV1 hu hm hq hc0
  go_enter Try.func67, Try.ntmps67
  go_wp2_with fail
  rw [HW1.out]
  refine (foldSides_any w1 _ bs m w.heap.size HU.out HC.out).mono ?_
  rintro r w2 ⟨rfl, b2⟩
  have HB2 := Lib.hid (below_step HB1.out b2 HB1.out.size)
  clear b2
  go_wp2_with fail
  go_ret
  exact ⟨ret_bool rfl, HB2.out⟩

set_option maxHeartbeats 2000000 in
theorem implFitsSides_any (w : World) (v u : Value) (m : List Int) (bs : List Bt) (hv : IRd w v m) (hu : BRd w u bs) :
    Calls Try.prog 23 #[v, u] w (BoolPost (sfitB m bs) w) := by
  obtain ⟨A, c, rfl, hl, hmx, -⟩ := id hv
  have HV := Lib.hid hv
  have HU := Lib.hid hu
  clear hv hu
  rcases Bool.eq_false_or_eq_true (meaB m) with h | h
  · rcases Bool.eq_false_or_eq_true (bidsB (m.length : Int) bs) with k | k
    · have HR : Hid (sfitB m bs = sfitI m bs) := Lib.hid (by rw [sfitB, h, k]; rfl)
      have HG := Lib.hid (grs_of h)
      have HQ := Lib.hid (bids_of k)
      go_enter Try.func23, Try.ntmps23
      go_wp2_with fail
      refine (implMeasureOk_any _ _ _ HV.out).mono ?_
      rintro r w' ⟨rfl, rfl⟩
      rw [h]
      go_wp2_with fail
      refine (implBidsOk_any _ _ _ _ HU.out).mono ?_
      rintro r w2 ⟨rfl, b2⟩
      rw [k]
      have HB2 := Lib.hid b2
      clear b2
      go_wp2_with fail
      refine (fitsSides_any _ _ _ m bs (HV.out.keep (SameAt.of_below HB2.out)) (HU.out.keep (SameAt.of_below HB2.out)) HG.out HQ.out).mono ?_
      rintro r w3 ⟨rfl, b3⟩
      have HB3 := Lib.hid (below_step HB2.out b3 HB2.out.size)
      clear b3
      go_wp2_with fail
      go_ret
      exact ⟨ret_bool HR.out.symm, HB3.out⟩
    · have HR : Hid (sfitB m bs = false) := Lib.hid (by rw [sfitB, h, k]; rfl)
      go_enter Try.func23, Try.ntmps23
      go_wp2_with fail
      refine (implMeasureOk_any _ _ _ HV.out).mono ?_
      rintro r w' ⟨rfl, rfl⟩
      rw [h]
      go_wp2_with fail
      refine (implBidsOk_any _ _ _ _ HU.out).mono ?_
      rintro r w2 ⟨rfl, b2⟩
      rw [k]
      have HB2 := Lib.hid b2
      clear b2
      go_wp2_with fail
      go_ret
      exact ⟨ret_bool HR.out.symm, HB2.out⟩
  · have HR : Hid (sfitB m bs = false) := Lib.hid (by rw [sfitB, h]; rfl)
    go_enter Try.func23, Try.ntmps23
    go_wp2_with fail
    refine (implMeasureOk_any _ _ _ HV.out).mono ?_
    rintro r w' ⟨rfl, rfl⟩
    rw [h]
    go_wp2_with fail
    go_ret
    exact ⟨ret_bool HR.out.symm, Below.refl _ _⟩

end Go.Proofs.Ytodmgcbcacblbaa

namespace Go.Proofs.Ytodmgcbcacblbaa.Two
open Go.RowKit Go.Shelf
set_option linter.unusedVariables false
attribute [local go_sem] Oper.semAt_some

/-- every block but those of C lies as it lay -/
def KeptBut (C : Nat → Prop) (A B : World) : Prop := A.heap.size ≤ B.heap.size ∧ ∀ k, k < A.heap.size → ¬ C k → B.heap[k]? = A.heap[k]?

/-- the contract of a walk over rows of its own: 'all' come, in this order, unless a round says that no more are wanted -/
def RowWalk (n : Nat) (P : Program) (gf : Nat) (lb : Array Value) (C : Nat → Prop) (w0 : World) (all : List (List Int)) : Prop :=
  ∀ (l : Nat) (J Jx : List (List Int) → World → Prop) (W : World), Below w0.heap.size w0 W → w0.heap.size ≤ l → l < W.heap.size → Stays W.heap.size J →
    (∀ pre x v A, J pre A → W.heap.size ≤ A.heap.size → IOwn A W.heap.size v x → (pre ++ [x]) <+: all →
      YieldAt Fence.wide (n - 1) P l #[v] A fun e A' => (e = .returned (.bool true) ∧ J (pre ++ [x]) A' ∧ KeptBut (fun k => C k ∨ k = l) A A') ∨ (e = .returned (.bool false) ∧ Jx (pre ++ [x]) A')) →
    J [] W →
    CallsIn Fence.wide n P gf (#[.func (.yield l) #[] #[]] ++ lb) W fun e A => (∃ v, e = .returned v) ∧ (J all A ∨ ∃ pre, pre <+: all ∧ Jx pre A)

/-- how a round's body may be left -/
def RowPost (C : Nat → Prop) (I : List (List Int) → World → Prop) (Ix : Code → List (List Int) → World → Prop) (xs : List (List Int)) (A : World) : Exit → Act → World → Prop
  | .normal, _, B => KeptBut C A B ∧ I xs B
  | .ret, _, B => KeepsOthers A B ∧ Ix .ret xs B
  | _, _, _ => False

set_option maxHeartbeats 2000000 in
theorem wpIn_rows {n : Nat} {P : Program} {g : Operand} {ps : Array Tmp} {assign body : Code} {Q : Exit → Act → World → Prop} {a : Act} {w : World} (h1 : 1 ≤ n)
    {gf : Nat} {lb : Array Value} (hg : a.eval g = .func (.func gf) #[] lb) (eg : ∀ args w, (callFunc gf args).run P w = .ok (.enter gf args) w)
    {C : Nat → Prop} {all : List (List Int)} (hseq : RowWalk (n - 1) P gf lb C w all) (hC : ∀ k, C k → k < w.heap.size) (hps : ps.size = 1)
    (I : List (List Int) → World → Prop) (Ix : Code → List (List Int) → World → Prop) (hI : Stays w.heap.size I)
    (hIx : ∀ c pre A l o o', Ix c pre A → w.heap.size ≤ l → A.heap[l]? = some o → o.isCells = false → Ix c pre (A.putObj l o')) (h0 : I [] w)
    (hround : ∀ (l : Nat) (pre : List (List Int)) (x : List Int) (v : Value) (W : World), (pre ++ [x]) <+: all →
      assign.wpIn (Fence.wide.inRound l) (n - 1 - 1) P (Exit.then (fun a₁ W' => W' = W ∧ ∀ B, I pre B → w.heap.size + 2 ≤ B.heap.size → IOwn B (w.heap.size + 2) v x →
        body.wpIn (Fence.wide.inRound l) (n - 1 - 1) P (RowPost C I Ix (pre ++ [x]) B) a₁ B) (fun _ _ _ => False)) { tmps := (ps.zip #[v]).foldl (fun t (p, v) => t.setIfInBounds p v) a.tmps, defers := [] } W)
    (hdone : ∀ (D : Nat) (W : World), w.heap.size ≤ D → I all W → W.heap[D]? = some (.deferred (some [])) → Q .normal { a with defers := { target := .collected D, args := #[] } :: a.defers } W)
    (hstop : ∀ (D : Nat) (c : Code) (pre : List (List Int)) (W : World), w.heap.size ≤ D → pre <+: all → Ix c pre W → W.heap[D]? = some (.deferred (some [])) → c.wpIn Fence.wide n P Q { a with defers := { target := .collected D, args := #[] } :: a.defers } W) :
    (Code.rangeFunc g ps assign body).wpIn Fence.wide n P Q a w := by
  apply wpIn_rangeFunc
  intro fn _
  -- the record of the loop, and the world in which the walk's function is called
  let rec' : LoopState → Option Code → Loop := fun st pe => { state := st, pending := pe, fn := fn, tmps := a.tmps, params := ps, assign := assign, body := body, defers := w.heap.size }
  obtain ⟨rc, hrc⟩ : ∃ rc, rc = rec' := ⟨_, rfl⟩
  have hs0 : ∀ st pe, (rc st pe).state = st := fun _ _ => by rw [hrc]
  have hp0 : ∀ st pe, (rc st pe).pending = pe := fun _ _ => by rw [hrc]
  obtain ⟨S, hS⟩ : ∃ S, (w.alloc (.deferred (some []))).alloc (.loop (rc .ready none)) = S := ⟨_, rfl⟩
  have hsz : S.heap.size = w.heap.size + 2 := by rw [← hS]; simp
  have hSl : S.heap[w.heap.size + 1]? = some (.loop (rc .ready none)) := by
    rw [← hS]
    have := World.alloc_heap_new (w.alloc (.deferred (some []))) (.loop (rc .ready none))
    rwa [World.size_alloc] at this
  have hSd : S.heap[w.heap.size]? = some (.deferred (some [])) := by
    rw [← hS, Below.heap_alloc _ _ _ (by simp)]; exact World.alloc_heap_new w _
  have hSB : Below w.heap.size w S := by rw [← hS]; exact ((Below.refl _ w).alloc (Nat.le_refl _) _).alloc (by simp) _
  refine ⟨w.heap.size + 1, [{ target := .collected w.heap.size, args := #[] }], S, { target := .fn (.func gf) lb, args := #[.func (.yield (w.heap.size + 1)) #[] #[]] }, S, gf, #[.func (.yield (w.heap.size + 1)) #[] #[]] ++ lb, S, ?_, ?_, fun _ _ => trivial, ?_, fun _ => h1, ?_⟩
  · rw [← hS, hrc]; exact run_enterLoop_outer _ _ _ _ _
  · simp only [resolve, hg]; simp [go_sem]
  · simp [invoke, go_sem, eg]
  refine (hseq (w.heap.size + 1)
    (fun pre A => I pre A ∧ A.heap[w.heap.size + 1]? = some (.loop (rc .ready none)) ∧ A.heap[w.heap.size]? = some (.deferred (some [])))
    (fun pre A => ∃ c, Ix c pre A ∧ A.heap[w.heap.size + 1]? = some (.loop (rc .done (some c))) ∧ A.heap[w.heap.size]? = some (.deferred (some [])))
    S hSB (by omega) (by omega) ?stay ?round ⟨hI _ _ _ h0 hSB, hSl, hSd⟩).mono ?behind
  case stay =>
    rintro pre A A' ⟨i1, i2, i3⟩ hb
    exact ⟨hI _ _ _ i1 (hb.mono (by omega)), (hb.block _ (by omega)).trans i2, (hb.block _ (by omega)).trans i3⟩
  case round =>
    rintro pre x v A ⟨i1, i2, i3⟩ hA hv hpre
    have hlt : w.heap.size + 1 < A.heap.size := (Array.getElem?_eq_some_iff.1 i2).1
    have hy := run_yield (P := P) (args := #[v]) i2 (by rw [hrc]; simp [rec', hps])
    rw [hrc] at hy
    refine ⟨fn, _, assign, body, hy, roundIn_of_wpIn trivial (wpIn_mono (hround _ pre x v A hpre) ?_)⟩
    rintro e0 a1 A1 h01
    cases e0 with
    | exit id => exact h01.elim
    | goto t => exact h01.elim
    | ret => exact h01.elim
    | panic ch => exact h01.elim
    | outgrown => exact h01.elim
    | normal =>
    obtain ⟨rfl, hbody⟩ := h01
    refine ⟨_, run_beginRound i2 (hs0 _ _), ?_⟩
    obtain ⟨B, hB⟩ : ∃ B, A1.putObj (w.heap.size + 1) (.loop { rc .ready none with state := .busy }) = B := ⟨_, rfl⟩
    rw [hB]
    have hBl : B.heap[w.heap.size + 1]? = some (.loop { rc .ready none with state := .busy }) := by rw [← hB]; exact World.putObj_heap_same hlt
    have hBd : B.heap[w.heap.size]? = some (.deferred (some [])) := by rw [← hB, World.putObj_heap_other (by omega)]; exact i3
    have hBs : B.heap.size = A1.heap.size := by rw [← hB]; simp
    have hBI : I pre B := by rw [← hB]; exact hI _ _ _ i1 (below_put _ hlt (by omega))
    have hBv : IOwn B (w.heap.size + 2) v x := by rw [← hB, ← hsz]; exact own_put _ hv (by omega)
    have hBo : ∀ k, k ≠ w.heap.size + 1 → B.heap[k]? = A1.heap[k]? := fun k hk => by rw [← hB]; exact World.putObj_heap_other hk
    refine wpIn_mono (hbody B hBI (by omega) hBv) ?_
    rintro e a3 Z hp
    -- the record and the deferred calls' block, behind the body
    have fin : ∀ (jump : Option Code), Z.heap[w.heap.size + 1]? = some (.loop { rc .ready none with state := .busy }) → Z.heap[w.heap.size]? = some (.deferred (some [])) →
        (Instr.endRound (w.heap.size + 1) jump).run P Z = .ok (.bool jump.isNone) (Z.putObj (w.heap.size + 1) (.loop (rc (if jump.isNone then .ready else .done) jump))) ∧
        (Z.putObj (w.heap.size + 1) (.loop (rc (if jump.isNone then .ready else .done) jump))).heap[w.heap.size + 1]? = some (.loop (rc (if jump.isNone then .ready else .done) jump)) ∧
        (Z.putObj (w.heap.size + 1) (.loop (rc (if jump.isNone then .ready else .done) jump))).heap[w.heap.size]? = some (.deferred (some [])) := by
      intro jump hl3 hd3
      have hr := run_endRound (P := P) jump hl3
      refine ⟨?_, World.putObj_heap_same (Array.getElem?_eq_some_iff.1 hl3).1, (World.putObj_heap_other (by omega)).trans hd3⟩
      rw [hr, hrc]
    cases e with
    | normal =>
      obtain ⟨⟨k1, k2⟩, hi3⟩ := hp
      have hl3 := (k2 (w.heap.size + 1) (by omega) (fun e => by have := hC _ e; omega)).trans hBl
      have hd3 := (k2 w.heap.size (by omega) (fun e => by have := hC _ e; omega)).trans hBd
      obtain ⟨hr, hl4, hd4⟩ := fin none hl3 hd3
      have hlt3 := (Array.getElem?_eq_some_iff.1 hl3).1
      refine ⟨_, _, hr, .inl ⟨rfl, ⟨hI _ _ _ hi3 (below_put _ hlt3 (by omega)), hl4, hd4⟩, ?_⟩⟩
      refine ⟨by simp; omega, fun k hk hkn => ?_⟩
      have hkC : ¬ C k := fun e => hkn (.inl e)
      have hkl : k ≠ w.heap.size + 1 := fun e => hkn (.inr e)
      rw [World.putObj_heap_other hkl, k2 k (by omega) hkC, hBo k hkl]
    | ret =>
      obtain ⟨hk3, hi3⟩ := hp
      have hl3 := hk3.same _ _ hBl rfl
      obtain ⟨hr, hl4, hd4⟩ := fin (some .ret) hl3 (hk3.same _ _ hBd rfl)
      exact ⟨_, _, hr, .inr ⟨rfl, .ret, hIx _ _ _ _ _ _ hi3 (by omega) hl3 rfl, hl4, hd4⟩⟩
    | exit id => exact hp.elim
    | goto t => exact hp.elim
    | panic ch => exact hp.elim
    | outgrown => exact hp.elim
  case behind =>
    rintro e Z ⟨⟨v, rfl⟩, ⟨i1, i2, i3⟩ | ⟨pre, hpre, c, i1, i2, i3⟩⟩
    · have hlt := (Array.getElem?_eq_some_iff.1 i2).1
      have hr := run_endLoop (P := P) i2 (by rw [hs0]; simp)
      rw [hp0] at hr
      exact ⟨none, _, hr, hdone _ _ (Nat.le_refl _) (hI _ _ _ i1 (below_put _ hlt (by omega))) ((World.putObj_heap_other (by omega)).trans i3)⟩
    · have hr := run_endLoop (P := P) i2 (by rw [hs0]; simp)
      rw [hp0] at hr
      exact ⟨some c, _, hr, hstop _ c pre _ (Nat.le_refl _) hpre (hIx _ _ _ _ _ _ i1 (by omega) i2 rfl) ((World.putObj_heap_other (by omega)).trans i3)⟩

/-- all measures that fit, in their order -/
def sidAll (m : Nat) (bs : List Bt) : List (List Int) := ((lay m 36).filter fun l => sfitI (natL l) bs).map natL

/-- those of the first d ways to lay the grains -/
def preS (m : Nat) (bs : List Bt) (d : Nat) : List (List Int) := (((lay m 36).take d).filter fun l => sfitI (natL l) bs).map natL

theorem pres_zero (m : Nat) (bs : List Bt) : preS m bs 0 = [] := by simp [preS]

theorem pres_all {m : Nat} {bs : List Bt} {d : Nat} (h : (lay m 36).length ≤ d) : preS m bs d = sidAll m bs := by
  rw [preS, List.take_of_length_le h]; rfl

theorem pres_fit {m : Nat} {bs : List Bt} {d : Nat} {l : List Nat} (h : (lay m 36)[d]? = some l) (hf : sfitI (natL l) bs = true) : preS m bs (d + 1) = preS m bs d ++ [natL l] := by
  rw [preS, preS, List.take_add_one, h, List.filter_append]
  simp [hf]

theorem pres_skip {m : Nat} {bs : List Bt} {d : Nat} {l : List Nat} (h : (lay m 36)[d]? = some l) (hf : sfitI (natL l) bs = false) : preS m bs (d + 1) = preS m bs d := by
  rw [preS, preS, List.take_add_one, h, List.filter_append]
  simp [hf]

theorem pres_prefix (m : Nat) (bs : List Bt) (d : Nat) : preS m bs d <+: sidAll m bs := ((List.take_prefix d (lay m 36)).filter _).map _

/-- what lay ahead of a loop, but for block C, lies as it lay -/
def Held (w0 : World) (C : Nat → Prop) (A : World) : Prop := w0.heap.size ≤ A.heap.size ∧ ∀ k, k < w0.heap.size → ¬ C k → A.heap[k]? = w0.heap[k]?

theorem Held.below {w0 A A' : World} {C : Nat → Prop} {B : Nat} (h : Held w0 C A) (hb : Below B A A') (hB : w0.heap.size ≤ B) : Held w0 C A' :=
  ⟨Nat.le_trans h.1 hb.size, fun k hk hC => (hb.block k (by omega)).trans (h.2 k hk hC)⟩

theorem Held.kept {w0 A A' : World} {C : Nat → Prop} {l : Nat} (h : Held w0 C A) (hb : KeptBut (fun k => C k ∨ k = l) A A') (hl : w0.heap.size ≤ l) : Held w0 C A' :=
  ⟨Nat.le_trans h.1 hb.1, fun k hk hC => (hb.2 k (by have := h.1; omega) (fun e => e.elim hC (fun e => by omega))).trans (h.2 k hk hC)⟩

theorem Held.cell {w0 A : World} {C : Nat → Prop} (h : Held w0 C A) {p : Addr} (hp : p.block < w0.heap.size) (hC : ¬ C p.block) : A.cell? p = w0.cell? p := World.cell?_of_block (w := w0) (h.2 p.block hp hC)

/-- where the walk stands -/
def SwRel (W w0 : World) (C : Nat → Prop) (m : Nat) (bs : List Bt) (J : List (List Int) → World → Prop) (v : Value) (d : Nat) (t : Bool) (A : World) : Prop :=
  (∃ l, IOwn A W.heap.size v (natL l) ∧ (t = true → (lay m 36)[d]? = some l) ∧ (t = false → (lay m 36).length = d)) ∧ Held w0 C A ∧ J (preS m bs d) A ∧ W.heap.size ≤ A.heap.size

/-- a row of the walk's own through a round's body -/
theorem own_kept {A A' : World} {base l : Nat} {C : Nat → Prop} {v : Value} {x : List Int} (h : IOwn A base v x) (k : KeptBut (fun k => C k ∨ k = l) A A') (hC : ∀ k, C k → k < base) (hl : l < base) : IOwn A' base v x :=
  h.keep ⟨k.1, fun g hg hlt => k.2 g hlt (fun e => by
    have := (h.ge g hg).1
    rcases e with e | e
    · have := hC g e; omega
    · omega)⟩

/-- a step of the walk -/
theorem SwRel.step {W w0 A A' : World} {C : Nat → Prop} {m d : Nat} {bs : List Bt} {J : List (List Int) → World → Prop} {v : Value} {l : List Nat} {e : Ending} (m1 : 1 ≤ m) (m4 : m ≤ 4) (hd : (lay m 36)[d]? = some l)
    (ho : IOwn A W.heap.size v (natL l)) (hh : Held w0 C A) (hj : J (preS m bs (d + 1)) A) (hs : W.heap.size ≤ A.heap.size) (hws : w0.heap.size ≤ W.heap.size) (hJ : Stays W.heap.size J) (h : StepPost W.heap.size v l A e A') :
    ∃ t, e = .returned (.bool t) ∧ SwRel W w0 C m bs J v (d + 1) t A' := by
  obtain ⟨t, l', rfl, hst, -, o, hgr, hz⟩ := h
  have hc := chain_at (chain_of m1 m4 (.inl rfl)) hd
  have hlt : d < (lay m 36).length := (List.getElem?_eq_some_iff.1 hd).1
  have hb : Below W.heap.size A A' := (Below.refl _ A).grown hgr hs (fun k hk => (ho.ge k hk).1)
  refine ⟨t, rfl, ⟨l', o, fun ht => ?_, fun ht => ?_⟩, hh.below hb hws, hJ _ _ _ hj hb, by omega⟩
  · subst ht; rw [← hc]; exact hst
  · subst ht
    have : (lay m 36)[d + 1]? = none := by rw [← hc]; exact hst
    have := List.getElem?_eq_none_iff.1 this
    omega

/-- the test that a walk over the measures is given: it has captured the variable at B -/
def sidT (B : Nat) : Value := .func (.func 104) #[] #[.pointer (some ⟨B, 0, none⟩)]

set_option maxHeartbeats 1000000 in
theorem sidTest_any (W : World) (v : Value) (m : List Int) (B : Nat) (u : Value) (bs : List Bt) (hB : W.cell? ⟨B, 0, none⟩ = some u) (hv : IRd W v m) (hu : BRd W u bs) (hm : Grs m) (hq : Bids bs) :
    Calls Try.prog 104 #[v, .pointer (some ⟨B, 0, none⟩)] W (BoolPost (sfitI m bs) W) := by
  obtain ⟨A, c, rfl, hl, hmx, -⟩ := id hv
  obtain ⟨A2, c2, rfl, hl2, hmx2⟩ := hu.form
  have HV := Lib.hid hv
  have HU := Lib.hid hu
  have HM := Lib.hid hm
  have HQ := Lib.hid hq
  clear hm hq hv hu
  go_enter Try.func104, Try.ntmps104
  go_wp2_with fail
  refine (fitsSides_any _ _ _ m bs HV.out HU.out HM.out HQ.out).mono ?_
  rintro r w2 ⟨rfl, b2⟩
  have HB2 := Lib.hid b2
  clear b2
  go_wp2_with fail
  go_ret
  exact ⟨ret_bool rfl, HB2.out⟩

/-- what the walk's making leaves: the book's cell, then the worlds' and the test's -/
def SidW (W W' : World) (m : Int) (u : Value) : Prop :=
  Below W.heap.size W W' ∧ W'.heap.size = W.heap.size + 3 ∧ W'.cell? ⟨W.heap.size, 0, none⟩ = some u ∧ W'.cell? ⟨W.heap.size + 1, 0, none⟩ = some (.int .i64 m) ∧ W'.cell? ⟨W.heap.size + 1 + 1, 0, none⟩ = some (sidT W.heap.size)

/-- what the three cells hold, wherever they stay -/
theorem SidW.cells {W W' : World} {m : Int} {u : Value} (h : SidW W W' m u) {A : World} {B : Nat} (hb : Below B W' A) (hB : W.heap.size + 3 ≤ B) :
    A.cell? ⟨W.heap.size, 0, none⟩ = some u ∧ A.cell? ⟨W.heap.size + 1, 0, none⟩ = some (.int .i64 m) ∧ A.cell? ⟨W.heap.size + 1 + 1, 0, none⟩ = some (sidT W.heap.size) :=
  ⟨(hb.cell (p := ⟨W.heap.size, 0, none⟩) (show W.heap.size < B by omega)).trans h.2.2.1, (hb.cell (p := ⟨W.heap.size + 1, 0, none⟩) (show W.heap.size + 1 < B by omega)).trans h.2.2.2.1, (hb.cell (p := ⟨W.heap.size + 1 + 1, 0, none⟩) (show W.heap.size + 1 + 1 < B by omega)).trans h.2.2.2.2⟩

set_option maxHeartbeats 1000000 in
theorem fittingSides_any (W : World) (m : Int) (A : Option Addr) (len c : Nat) :
    Calls Try.prog 63 #[.int .i64 m, .slice A len c] W fun r W' => r = .returned (fitV (W.heap.size + 1)) ∧ SidW W W' m (.slice A len c) := by
  go_enter Try.func63, Try.ntmps63
  go_wp2_with fail
  refine (measuresWhere_any _ m _ _ _ rfl).mono ?_
  rintro r w2 ⟨rfl, hw2⟩
  have HF : Hid (SidW W w2 m (.slice A len c)) := Lib.hid (by
    have h1 := new_cell W (.slice A len c) 23
    have h2 := new_cell (W.alloc (.cells #[.slice A len c] 23)) (.int .i64 m) 3
    have h3 := new_cell ((W.alloc (.cells #[.slice A len c] 23)).alloc (.cells #[.int .i64 m] 3)) (sidT W.heap.size) 79
    rw [World.size_alloc] at h2
    rw [World.size_alloc, World.size_alloc] at h3
    rw [← hw2]
    exact ⟨(((Below.refl _ _).alloc (Nat.le_refl _) _).alloc (by simp) _).alloc (by simp; omega) _, by simp, old_cell _ (old_cell _ h1.1), old_cell _ h2.1, h3.1⟩)
  clear hw2
  unfold fitV
  go_wp2_with fail
  go_ret
  exact ⟨by simp [fitV], HF.out⟩

set_option maxRecDepth 100000 in
set_option maxHeartbeats 8000000 in
theorem sidWalk_any (n : Nat) (C : Nat → Prop) (b m : Nat) (u : Value) (bs : List Bt) (w0 : World) (hC0 : ¬ C b) (hC1 : ¬ C (b + 1)) (hC2 : ¬ C (b + 1 + 1)) (hC : ∀ k, C k → k < w0.heap.size)
    (hcs : w0.cell? ⟨b, 0, none⟩ = some u ∧ w0.cell? ⟨b + 1, 0, none⟩ = some (.int .i64 (m : Int)) ∧ w0.cell? ⟨b + 1 + 1, 0, none⟩ = some (sidT b)) (hu : ∀ A, Held w0 C A → BRd A u bs) (hq : Bids bs) (m1 : 1 ≤ m) (m4 : m ≤ 4) :
    RowWalk n Try.prog 120 #[.pointer (some ⟨b + 1, 0, none⟩), .pointer (some ⟨b + 1 + 1, 0, none⟩)] C w0 (sidAll m bs) := by
  intro l J Jx W hW hl0 hl1 hJ hY h0
  have hWs := hW.size
  have HH : Held w0 C W := ⟨hW.size, fun k hk _ => hW.block k hk⟩
  obtain ⟨hb, hw, hh⟩ := hcs
  unfold sidT at hh
  have HB : Hid (∀ A, Held w0 C A → A.cell? ⟨b + 1, 0, none⟩ = some (.int .i64 (m : Int)) ∧ A.cell? ⟨b + 1 + 1, 0, none⟩ = some (.func (.func 104) #[] #[.pointer (some ⟨b, 0, none⟩)]) ∧ A.cell? ⟨b, 0, none⟩ = some u ∧ BRd A u bs) := Lib.hid (fun A hA =>
    ⟨(hA.cell (p := ⟨b + 1, 0, none⟩) (World.block_lt_of_cell? w0 _ hw) hC1).trans hw, (hA.cell (p := ⟨b + 1 + 1, 0, none⟩) (World.block_lt_of_cell? w0 _ hh) hC2).trans hh, (hA.cell (p := ⟨b, 0, none⟩) (World.block_lt_of_cell? w0 _ hb) hC0).trans hb, hu A hA⟩)
  have hcw := (HB.out W HH).1
  have HHH := Lib.hid HH
  have HQ := Lib.hid hq
  have HY := Lib.hid hY
  have HJ := Lib.hid hJ
  have HJ0 := Lib.hid h0
  have HC := Lib.hid hC
  have HL0 := Lib.hid hl0
  have HL1 := Lib.hid hl1
  have HWS := Lib.hid hWs
  clear HH hq hY hJ h0 hC hl0 hl1 hWs hW hw hb hh hu hC0 hC1 hC2
  refine callsIn_of_wp Try.func120 rfl trivial ?_ rfl
  simp only [Try.ntmps120, List.size_toArray, List.length_cons, List.length_nil, Nat.reduceAdd, Nat.reduceSub, Array.replicate_succ, Array.replicate_zero, List.push_toArray, List.append_toArray, List.nil_append, List.cons_append]
  gi_wp2_with fail
  refine ⟨trivial, (fun h => by cases h), (callsIn_wide.2 (leastMeasure_any W m m1 m4)).mono ?_⟩
  rintro e w3 ⟨v, rfl, o3, b3⟩
  have H0 : Hid (SwRel W w0 C m bs J v 0 true w3) := Lib.hid ⟨⟨_, o3, fun _ => by obtain ⟨k, rfl⟩ : ∃ k, m = k + 1 := ⟨m - 1, by omega⟩; exact lay_first k 36, fun h => by cases h⟩, HHH.out.below b3 HWS.out, by rw [pres_zero]; exact HJ.out _ _ _ HJ0.out b3, b3.size⟩
  clear o3 b3
  obtain ⟨L, hL⟩ : ∃ L, (lay m 36).length = L := ⟨_, rfl⟩
  have HL := Lib.hid hL
  clear hL
  gi_wp2_with fail
  gi_loopg [5] (L + 1) (fun gk s wr => ∃ (d : Nat) (t : Bool), gk = L + 1 - d ∧ d ≤ L ∧ s = .bool t ∧ Hid (SwRel W w0 C m bs J v d t wr))
  case atStart => exact ⟨0, true, by omega, Nat.zero_le _, rfl, H0⟩
  case round =>
    obtain ⟨d, t, hgk, hd, rfl, HF⟩ := hrel
    clear H0
    cases t
    · have HE : Hid (J (sidAll m bs) wr) := Lib.hid (by obtain ⟨⟨x, -, -, h2⟩, -, h3, -⟩ := HF.out; rw [← pres_all (d := d) (by rw [h2 rfl]; exact Nat.le_refl _)]; exact h3)
      gi_wp2_with fail
      go_end0
      exact ⟨⟨_, rfl⟩, .inl HE.out⟩
    · obtain ⟨⟨x, ox, hx, -⟩, hh, hj, hs⟩ := id HF.out
      have hx := hx rfl
      have HX := Lib.hid hx
      have HO := Lib.hid ox
      have HHD := Lib.hid hh
      have HJD := Lib.hid hj
      have HSZ := Lib.hid hs
      have hdL : d < L := by rw [← HL.out]; exact (List.getElem?_eq_some_iff.1 hx).1
      obtain ⟨hf1, hf2⟩ := lay_facts m1 hx
      have HF1 := Lib.hid hf1
      have HF2 := Lib.hid hf2
      have HG : Hid (Grs (natL x)) := Lib.hid (grs_of ((mea_lay (natL x)).2 ⟨by rw [natL_len]; omega, x, by rw [natL_len, hf1]; exact List.mem_of_getElem? hx, rfl⟩))
      have hcb := (HB.out wr hh).2.1
      have HBC := Lib.hid (HB.out wr hh).2.2.1
      have HU := Lib.hid (HB.out wr hh).2.2.2
      clear hx ox hh hj hs hf1 hf2
      obtain ⟨fb, hfb⟩ : ∃ fb, sfitI (natL x) bs = fb := ⟨_, rfl⟩
      have HFB := Lib.hid hfb
      clear hfb
      gi_wp2_with fail
      refine ⟨trivial, (fun h => by cases h), (callsIn_wide.2 (sidTest_any wr v (natL x) b u bs HBC.out HO.out.rd HU.out HG.out HQ.out)).mono ?_⟩
      rintro e w5 ⟨rfl, b5⟩
      rw [HFB.out]
      have HO5 := Lib.hid (HO.out.keep (SameAt.of_below b5))
      have HH5 := Lib.hid (HHD.out.below b5 (Nat.le_trans HWS.out HSZ.out))
      have HJ5 := Lib.hid (HJ.out _ _ _ HJD.out (b5.mono HSZ.out))
      have HS5 : Hid (W.heap.size ≤ w5.heap.size) := Lib.hid (Nat.le_trans HSZ.out b5.size)
      clear b5
      cases fb
      · gi_wp2_with fail
        refine ⟨fun _ h => (by cases h), ?_⟩
        gi_wp2_with fail
        refine ⟨trivial, (fun h => by cases h), (callsIn_wide.2 (layNext_any w5 W.heap.size v x (by have := HF1.out; omega) (by have := HF1.out; omega) (by have := HF2.out; omega) HO5.out)).mono ?_⟩
        intro e w6 hstep
        obtain ⟨t', rfl, hW6⟩ := SwRel.step (bs := bs) (J := J) (W := W) (w0 := w0) (C := C) m1 m4 HX.out HO5.out HH5.out (by rw [pres_skip HX.out HFB.out]; exact HJ5.out) HS5.out HWS.out HJ.out hstep
        have HW6 := Lib.hid hW6
        clear hW6 hstep
        gi_wp2_with fail
        gi_roundg (L + 1 - (d + 1))
        case measure => omega
        case rel => exact ⟨d + 1, t', rfl, by omega, rfl, HW6⟩
      · obtain ⟨fn, tmps, assign, body, hy, hR⟩ := HY.out _ _ _ _ HJ5.out HS5.out HO5.out (by rw [← pres_fit HX.out HFB.out]; exact pres_prefix m bs (d + 1))
        have HR := Lib.hid hR
        clear hR
        gi_wp2_with fail
        refine ⟨(fun h => by cases h), HR.out.mono ?_⟩
        rintro e w6 (⟨rfl, hj6, hk6⟩ | ⟨rfl, hx6⟩)
        · have HO6 := Lib.hid (own_kept HO5.out hk6 (fun k hk => Nat.lt_of_lt_of_le (HC.out k hk) HWS.out) HL1.out)
          have HH6 := Lib.hid (HH5.out.kept hk6 HL0.out)
          have HJ6 := Lib.hid hj6
          have HS6 : Hid (W.heap.size ≤ w6.heap.size) := Lib.hid (Nat.le_trans HS5.out hk6.1)
          clear hj6 hk6 hy HR
          gi_wp2_with fail
          refine ⟨trivial, (fun h => by cases h), (callsIn_wide.2 (layNext_any w6 W.heap.size v x (by have := HF1.out; omega) (by have := HF1.out; omega) (by have := HF2.out; omega) HO6.out)).mono ?_⟩
          intro e w7 hstep
          obtain ⟨t', rfl, hW6⟩ := SwRel.step (bs := bs) (J := J) (W := W) (w0 := w0) (C := C) m1 m4 HX.out HO6.out HH6.out (by rw [pres_fit HX.out HFB.out]; exact HJ6.out) HS6.out HWS.out HJ.out hstep
          have HW6 := Lib.hid hW6
          clear hW6 hstep
          gi_wp2_with fail
          gi_roundg (L + 1 - (d + 1))
          case measure => omega
          case rel => exact ⟨d + 1, t', rfl, by omega, rfl, HW6⟩
        · have HX6 := Lib.hid hx6
          clear hx6 hy HR
          gi_wp2_with fail
          refine bodyPost_ret (results_none rfl _ _ _) rfl ?_
          exact ⟨⟨_, rfl⟩, .inr ⟨_, by rw [← pres_fit HX.out HFB.out]; exact pres_prefix m bs (d + 1), HX6.out⟩⟩

end Go.Proofs.Ytodmgcbcacblbaa.Two
