/- The laws' helpers over quotes: toQuote, toQuoteS, szQuoteS, eqQuote, eqQuoteS, markQuoteS; and stakesOk. Conditions: stated at each. The laws' helpers over rows of quotes: toQuoteS, eqQuoteS, markQuoteS. Conditions: stated at each. -/
import Derived.Test.YteljcicdibbhdaaQd
namespace Go.Proofs.Yteljcicdibbhdaa
open Go.RowKit
set_option linter.unusedVariables false

theorem stakes_no1 {ss : List Int} {n : Nat} (h : ss.length ≠ n) : (decide (ss.length = n) && ss.all stB) = false := by rw [decide_eq_false h]; rfl

theorem alls_take {ss : List Int} {k : Nat} {x : Int} (hx : ss[k]? = some x) (h : stB x = true) (ih : ∀ y ∈ ss.take k, stB y = true) : ∀ y ∈ ss.take (k + 1), stB y = true := by
  rw [List.take_add_one, hx]
  intro y hy
  rcases List.mem_append.1 hy with h1 | h1
  · exact ih y h1
  · simp at h1; subst h1; exact h

theorem alls_no {ss : List Int} {k : Nat} {x : Int} (hx : ss[k]? = some x) (h : stB x = false) : ss.all stB = false := by
  rw [← Bool.not_eq_true, List.all_eq_true]
  intro h2
  have := h2 x (List.mem_of_getElem? hx)
  rw [h] at this; cases this

set_option maxHeartbeats 1000000 in
theorem stakesOk_any (w : World) (v u : Value) (qs : List Qt) (ss : List Int) (hv : QRd w v qs) (hu : IRd w u ss) :
    Calls Try.prog 119 #[v, u] w fun r w' => r = .returned (.bool (decide (ss.length = qs.length) && ss.all stB)) ∧ w = w' := by
  obtain ⟨A, c, rfl, hl, hm⟩ := hv.form
  obtain ⟨A', c', rfl, hl', hm', -⟩ := id hu
  have HU := Lib.hid hu
  clear hu hv
  by_cases h : ss.length = qs.length
  · have H := Lib.hid h
    have h' : ((ss.length : Int) == (qs.length : Int)) = true := by simp; omega
    have h'' : ((ss.length : Int) != (qs.length : Int)) = false := by simp; omega
    clear h
    go_enter Try.func119, Try.ntmps119
    go_wp2_with fail
    clear h' h''
    go_loop [14] (fun i => ∃ k : Nat, i = .int .i64 k ∧ k ≤ ss.length ∧ Hid (∀ y ∈ ss.take k, stB y = true)) (fun i => ss.length - (intOf i).toNat)
    case atStart => exact ⟨0, rfl, Nat.zero_le _, Lib.hid (by simp)⟩
    case round =>
      obtain ⟨k, rfl, hk, HA⟩ := hrel
      by_cases hlt : k < ss.length
      · obtain ⟨b, off, x, rfl, -, hx, hcx⟩ := HU.out.at_ hlt
        have HX := Lib.hid hx
        clear hx
        rcases Bool.eq_false_or_eq_true (stB x) with hs | hs
        · have HS := Lib.hid hs
          go_wp2_with fail
          refine (stakeOk_any x _).mono ?_
          rintro r w' ⟨rfl, rfl⟩
          rw [hs]
          go_wp2_with fail
          go_round
          case rel => exact ⟨k + 1, by go_num, by omega, Lib.hid (alls_take HX.out HS.out HA.out)⟩
          case measure => simp [intOf]; omega
        · have HS := Lib.hid hs
          go_wp2_with fail
          refine (stakeOk_any x _).mono ?_
          rintro r w' ⟨rfl, rfl⟩
          rw [hs]
          go_wp2_with fail
          go_ret
          exact ⟨ret_bool (by rw [alls_no HX.out HS.out]; simp), rfl⟩
      · go_wp2_with fail
        go_ret
        exact ⟨ret_bool (by rw [decide_eq_true H.out, List.all_eq_true.2 (by have := HA.out; rwa [List.take_of_length_le (by omega)] at this)]; rfl), rfl⟩
  · have H := Lib.hid h
    have h' : ((ss.length : Int) == (qs.length : Int)) = false := by simp; omega
    have h'' : ((ss.length : Int) != (qs.length : Int)) = true := by simp; omega
    clear h
    go_enter Try.func119, Try.ntmps119
    go_wp2_with fail
    go_ret
    exact ⟨ret_bool (stakes_no1 H.out).symm, rfl⟩

set_option maxHeartbeats 400000 in
theorem szQuoteS_small (w : World) (A : Option Addr) (n c : Nat) (h : n ≤ 1048576) :
    Calls Try.prog 39 #[.slice A n c, .int .i64 1048576] w fun r w' => r = .returned (.int .i64 (1048576 - (n : Int))) ∧ w = w' := by
  have h1 : (n : Int) ≤ 1048576 := by omega
  go_enter Try.func39, Try.ntmps39
  go_wp2
  go_ret
  exact ⟨rfl, rfl⟩

set_option maxHeartbeats 400000 in
theorem szQuoteS_big (w : World) (A : Option Addr) (n c : Nat) (h : 1048576 < n) (hm : n ≤ 9223372036854775807) :
    Calls Try.prog 39 #[.slice A n c, .int .i64 1048576] w fun r w' => r = .returned (.int .i64 (-1)) ∧ w = w' := by
  have h1 : (1048576 : Int) < (n : Int) := by omega
  have h2 : (n : Int) ≤ 9223372036854775807 := by omega
  go_enter Try.func39, Try.ntmps39
  go_wp2
  go_ret
  exact ⟨rfl, rfl⟩

set_option maxHeartbeats 400000 in
theorem toQuote_any (q : Qt) (W : World) :
    Calls Try.prog 42 #[qV q] W fun r W' => r = .returned (qV q) ∧ Below W.heap.size W W' := by
  obtain ⟨e, p⟩ := q
  unfold qV
  go_enter Try.func42, Try.ntmps42
  go_wp2
  go_returns
  exact ⟨rfl, by go_grown⟩

theorem qeq_false1 {a b c d : Int} (h : (a != c) = true) : decide ((a, b) = (c, d)) = false := by
  rw [decide_eq_false_iff_not]
  intro e
  injection e with e1 e2
  simp [e1] at h

theorem qeq_false2 {a b c d : Int} (h : (b != d) = true) : decide ((a, b) = (c, d)) = false := by
  rw [decide_eq_false_iff_not]
  intro e
  injection e with e1 e2
  simp [e2] at h

theorem qeq_true {a b c d : Int} (h : a = c) (k : b = d) : decide ((a, b) = (c, d)) = true := by rw [h, k]; simp

set_option maxHeartbeats 400000 in
theorem eqQuote_any (q r : Qt) (W : World) :
    Calls Try.prog 83 #[qV q, qV r] W fun e W' => e = .returned (.bool (decide (q = r))) ∧ W' = (W.alloc (qBlk q)).alloc (qBlk r) := by
  obtain ⟨a, b⟩ := q
  obtain ⟨c, d⟩ := r
  unfold qV qBlk
  by_cases h1 : a = c
  · subst h1
    by_cases h2 : b = d
    · subst h2
      go_enter Try.func83, Try.ntmps83
      go_wp2
      go_ret
      exact ⟨ret_bool (by simp), rfl⟩
    · have h3 : (b != d) = true := by simpa using h2
      go_enter Try.func83, Try.ntmps83
      go_wp2
      go_ret
      exact ⟨ret_bool (qeq_false2 h3).symm, rfl⟩
  · have h3 : (a != c) = true := by simpa using h1
    go_enter Try.func83, Try.ntmps83
    go_wp2
    go_ret
    exact ⟨ret_bool (qeq_false1 h3).symm, rfl⟩

end Go.Proofs.Yteljcicdibbhdaa

namespace Go.Proofs.Yteljcicdibbhdaa
open Go.RowKit
set_option linter.unusedVariables false

theorem Try_quoteinfo : (Try.prog.info? 35).map (fun i => (i.zero, i.size, i.bytes)) = some (some (.agg #[.int .i64 0, .int .i64 0]), 2, 16) := by kernel_rfl

/-- a fresh row of quotes -/
def NewQs (qs : List Qt) (w : World) (e : Ending) (w' : World) : Prop := ∃ v, e = .returned v ∧ QOwn w' w.heap.size v qs ∧ Below w.heap.size w w'

abbrev QFill (w : World) (qs : List Qt) (k : Nat) (wr : World) : Prop := GFill 35 2 qC ((0, 0) : Qt) w qs k wr

set_option maxHeartbeats 1000000 in
theorem toQuoteS_any (w : World) (v : Value) (qs : List Qt) (hv : QRd w v qs) (hn : qs.length ≤ 1048576) :
    Calls Try.prog 40 #[v] w (NewQs qs w) := by
  obtain ⟨A, c, rfl, hl, hm⟩ := hv.form
  have HV := Lib.hid hv
  clear hv
  obtain ⟨i0, hi, hz0, hz1, hz2⟩ := info_parts Try_quoteinfo
  go_enter Try.func40, Try.ntmps40
  go_wp2_with (at_make; refine wpList_make_full _ rfl _ _ 23 rfl w.heap.size 35 i0 (.agg #[.int .i64 0, .int .i64 0]) 2 Try.underlying23 hi hz0 hz1 .i64 .i64 _ _ qs.length rfl rfl rfl rfl ?b2 ?b3 (Nat.le_refl _) ?_)
  case b2 => first | omega | (rw [hz2]; omega)
  case b3 => unfold maxLen; omega
  intro w0 hown0 hgrow0
  have H0 : Hid (QFill w qs 0 w0) := Lib.hid (GFill.start qC_len (by decide) (0, 0) hown0 rfl rfl hgrow0)
  clear hown0 hgrow0 hi hz0 hz1 hz2
  go_wp2_with fail
  go_loopw [4] (fun i wr => ∃ k : Nat, i = .int .i64 k ∧ k ≤ qs.length ∧ Hid (QFill w qs k wr)) (fun i _ => qs.length - (intOf i).toNat)
  case atStart => exact ⟨0, rfl, Nat.zero_le _, H0⟩
  case round =>
    obtain ⟨k, rfl, hk, H⟩ := hrel
    clear H0
    by_cases hlt : k < qs.length
    · obtain ⟨b, off, q, rfl, -, hx, hc0, hc1⟩ := QRd.at_ (HV.out.keep (SameAt.of_below H.out.2)) hlt
      have HX := Lib.hid hx
      clear hx
      go_wp2_with fail
      refine (toQuote_any q _).mono ?_
      rintro r w2 ⟨rfl, b2⟩
      unfold qV
      have H2 := Lib.hid (H.out.keep b2)
      clear b2 hc0 hc1 H
      obtain ⟨hf0, o0, ho0⟩ := H2.out.old qC_len hlt (j := 0) (by decide)
      obtain ⟨hf1, o1, ho1⟩ := H2.out.old qC_len hlt (j := 1) (by decide)
      rw [Nat.add_zero] at hf0 ho0
      go_wp2_with fail
      go_roundw
      case rel => exact ⟨k + 1, by go_num, by omega, (show Hid _ from H2.out.step2 qC_len HX.out rfl)⟩
      case measure => simp [intOf]; omega
    · go_wp2_with fail
      go_ret
      obtain ⟨h1, h2⟩ := H.out.all (by omega)
      exact ⟨_, rfl, h1, h2⟩

/-- up to place k both rows are alike -/
def qagree (xs ys : List Qt) (k : Nat) : Prop := ∀ i, i < k → xs[i]? = ys[i]?

theorem qagree_all {xs ys : List Qt} (hl : xs.length = ys.length) (h : qagree xs ys xs.length) : xs = ys := by
  apply List.ext_getElem?
  intro i
  by_cases hi : i < xs.length
  · exact h i hi
  · rw [List.getElem?_eq_none (by omega), List.getElem?_eq_none (by omega)]

theorem qagree_succ {xs ys : List Qt} {k : Nat} (h : qagree xs ys k) (hk : xs[k]? = ys[k]?) : qagree xs ys (k + 1) := by
  intro i hi
  rcases Nat.lt_succ_iff_lt_or_eq.1 hi with h1 | h1
  · exact h i h1
  · subst h1; exact hk

def QEqPost (xs ys : List Qt) (w : World) (e : Ending) (w' : World) : Prop := e = .returned (.bool (decide (xs = ys))) ∧ Below w.heap.size w w'

set_option maxHeartbeats 2000000 in
theorem eqQuoteS_any (w : World) (v u : Value) (xs ys : List Qt) (hv : QRd w v xs) (hu : QRd w u ys) :
    Calls Try.prog 41 #[v, u] w (QEqPost xs ys w) := by
  obtain ⟨A, c, rfl, hl, hm⟩ := hv.form
  obtain ⟨A', c', rfl, hl', hm'⟩ := hu.form
  have HV := Lib.hid hv
  have HU := Lib.hid hu
  clear hv hu
  by_cases hlen : xs.length = ys.length
  · have h1 : ((xs.length : Int) == (ys.length : Int)) = true := by simp; omega
    have h2 : ((xs.length : Int) != (ys.length : Int)) = false := by simp; omega
    have HL := Lib.hid hlen
    clear hlen
    go_enter Try.func41, Try.ntmps41
    go_wp2
    clear h1 h2
    go_loopw [5] (fun i wr => ∃ k : Nat, i = .int .i64 k ∧ k ≤ xs.length ∧ Hid (qagree xs ys k) ∧ Hid (Below w.heap.size w wr)) (fun i _ => xs.length - (intOf i).toNat)
    case atStart => exact ⟨0, rfl, Nat.zero_le _, Lib.hid (fun i hi => absurd hi (Nat.not_lt_zero _)), Lib.hid (Below.refl _ _)⟩
    case round =>
      obtain ⟨k, rfl, hk, HA, HB⟩ := hrel
      by_cases hlt : k < xs.length
      · obtain ⟨b, off, x, rfl, -, hx, hx0, hx1⟩ := QRd.at_ (HV.out.keep (SameAt.of_below HB.out)) hlt
        obtain ⟨b', off', y, rfl, -, hy, hy0, hy1⟩ := QRd.at_ (HU.out.keep (SameAt.of_below HB.out)) (k := k) (by have := HL.out; omega)
        have hlt' : k < ys.length := by have := HL.out; omega
        have HX := Lib.hid hx
        have HY := Lib.hid hy
        clear hx hy
        rcases Bool.eq_false_or_eq_true (decide (x = y)) with hxy | hxy
        · have HXY : Hid (x = y) := Lib.hid (by simpa using hxy)
          go_wp2_with fail
          go_region_with (go_at_call 83; refine (eqQuote_any x y _).mono ?_; rintro r w2 ⟨rfl, rfl⟩; rw [hxy]; unfold qBlk)
          all_goals
            go_wp2_with fail
            go_roundw
            case rel => exact ⟨k + 1, by go_num, by omega, Lib.hid (qagree_succ HA.out (HX.out.trans (HXY.out ▸ HY.out.symm))), Lib.hid (below_step HB.out (by go_grown) HB.out.size)⟩
            case measure => simp [intOf]; omega
        · have HXY : Hid (x ≠ y) := Lib.hid (by simpa using hxy)
          go_wp2_with fail
          go_region_with (go_at_call 83; refine (eqQuote_any x y _).mono ?_; rintro r w2 ⟨rfl, rfl⟩; rw [hxy]; unfold qBlk)
          all_goals
            go_wp2_with fail
            go_ret
            exact ⟨ret_bool (by symm; simp only [decide_eq_false_iff_not]; intro e; subst e; exact HXY.out (Option.some.inj (HX.out.symm.trans HY.out))), below_step HB.out (by go_grown) HB.out.size⟩
      · go_wp2_with fail
        go_ret
        exact ⟨ret_bool (by symm; simp only [decide_eq_true_eq]; exact qagree_all HL.out (by have := HA.out; rwa [show k = xs.length from by omega] at this)), HB.out⟩
  · have h1 : ((xs.length : Int) == (ys.length : Int)) = false := by simp; omega
    have h2 : ((xs.length : Int) != (ys.length : Int)) = true := by simp; omega
    have HL := Lib.hid hlen
    clear hlen
    go_enter Try.func41, Try.ntmps41
    go_wp2
    go_ret
    exact ⟨ret_bool (by symm; simp only [decide_eq_false_iff_not]; intro e; exact HL.out (by rw [e])), Below.refl _ _⟩

/-- the numbers from k on, two for each quote -/
def qUp (q : Int) (xs : List Qt) (k : Nat) : List Qt := (List.range k).map (fun i : Nat => (q + 2 * (i : Int), q + 2 * (i : Int) + 1)) ++ xs.drop k

theorem qUp_len (q : Int) (xs : List Qt) {k : Nat} (hk : k ≤ xs.length) : (qUp q xs k).length = xs.length := by simp [qUp]; omega

theorem qUp_set (q : Int) (xs : List Qt) {k : Nat} (hk : k < xs.length) : (qUp q xs k).set k (q + 2 * (k : Int), q + 2 * (k : Int) + 1) = qUp q xs (k + 1) := by
  unfold qUp
  rw [List.set_append_right _ _ (by simp), List.length_map, List.length_range, Nat.sub_self, List.drop_eq_getElem_cons hk, List.set_cons_zero, List.range_succ, List.map_append, List.append_assoc]
  rfl

theorem qUp_zero (q : Int) (xs : List Qt) : qUp q xs 0 = xs := by simp [qUp]

/-- the row of v is marked, and nothing else written -/
def QMarked (base : Nat) (q : Int) (v : Value) (n : Nat) (w : World) (e : Ending) (w' : World) : Prop :=
  e = .returned (.int .i64 (q + 2 * n)) ∧ w.grownBy w' v.ownBlock ∧ w'.heap.size = w.heap.size

def QMarkRel (w : World) (base : Nat) (q : Int) (v : Value) (xs : List Qt) (k : Nat) (wr : World) : Prop :=
  QOwn wr base v (qUp q xs k) ∧ w.grownBy wr v.ownBlock ∧ wr.heap.size = w.heap.size

theorem QMarkRel.step {w wr : World} {base g cap n : Nat} {q : Int} {xs : List Qt} {k : Nat} (h : QMarkRel w base q (.slice (some ⟨g, 0, none⟩) n cap) xs k wr) (hn : xs.length = n) (hk : k < n) :
    QMarkRel w base q (.slice (some ⟨g, 0, none⟩) n cap) xs (k + 1) ((wr.setCell ⟨g, k * 2, none⟩ (.int .i64 (q + 2 * (k : Int)))).setCell ⟨g, k * 2 + 1, none⟩ (.int .i64 (q + 2 * (k : Int) + 1))) := by
  subst hn
  obtain ⟨h1, h2, h5⟩ := h
  have hl := qUp_len q xs (Nat.le_of_lt hk)
  rw [← hl] at h1
  obtain ⟨h3, h4⟩ := GOwn.set2 (cp := cap) (x := (q + 2 * (k : Int), q + 2 * (k : Int) + 1)) qC_len h1 (by rw [hl]; exact hk) rfl
  rw [qUp_set q xs hk, hl] at h3
  exact ⟨h3, ⟨h4.os.trans h2.os, h4.tape.trans h2.tape, h4.output.trans h2.output, Nat.le_trans h2.size h4.size, fun i hi hne => (h4.block i (by omega) hne).trans (h2.block i hi hne)⟩, by simpa using h5⟩

end Go.Proofs.Yteljcicdibbhdaa
