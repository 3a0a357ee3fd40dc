/- Rows of bets, and the laws' helpers over them: toBid, toBidS, szBidS, eqBid, eqBidS, markBidS, heldBidS. Conditions: stated at each. -/
import Derived.Test.YtodmgcbcacblbaaJa
import Derived.Test.YtodmgcbcacblbaaQf
import Derived.Test.YtodmgcbcacblbaaRh
import Derived.BigRegion
namespace Go.Proofs.Ytodmgcbcacblbaa
open Go.RowKit
set_option linter.unusedVariables false

/-- the cells of a bet -/
def bC (b : Bt) : List Value := [.int .i64 b.1, .int .i64 b.2.1, .int .i64 b.2.2]

theorem bC_len (b : Bt) : (bC b).length = 3 := rfl

abbrev BRd (w : World) (v : Value) (bs : List Bt) : Prop := GRd 3 bC w v bs

abbrev BOwn (w : World) (base : Nat) (v : Value) (bs : List Bt) : Prop := GOwn 28 3 bC w base v bs

/-- a bet by value -/
def bV (b : Bt) : Value := .agg #[.int .i64 b.1, .int .i64 b.2.1, .int .i64 b.2.2]

theorem BRd.at_ {w : World} {A : Option Addr} {n cp : Nat} {bs : List Bt} (h : BRd w (.slice A n cp) bs) {k : Nat} (hk : k < n) :
    ∃ b off q, A = some ⟨b, off, none⟩ ∧ b < w.heap.size ∧ bs[k]? = some q ∧ w.cell? ⟨b, off + k * 3, none⟩ = some (.int .i64 q.1) ∧ w.cell? ⟨b, off + k * 3 + 1, none⟩ = some (.int .i64 q.2.1) ∧ w.cell? ⟨b, off + k * 3 + 2, none⟩ = some (.int .i64 q.2.2) := by
  obtain ⟨b, off, q, hA, hb, hx, hc⟩ := GRd.at_ h hk
  exact ⟨b, off, q, hA, hb, hx, hc 0 _ rfl, hc 1 _ rfl, hc 2 _ rfl⟩

set_option maxHeartbeats 400000 in
theorem szBidS_small (w : World) (A : Option Addr) (n c : Nat) (h : n ≤ 1048576) :
    Calls Try.prog 47 #[.slice A n c, .int .i64 1048576] w fun r w' => r = .returned (.int .i64 (1048576 - (n : Int))) ∧ w = w' := by
  have h1 : (n : Int) ≤ 1048576 := by omega
  go_enter Try.func47, Try.ntmps47
  go_wp2
  go_ret
  exact ⟨rfl, rfl⟩

set_option maxHeartbeats 400000 in
theorem szBidS_big (w : World) (A : Option Addr) (n c : Nat) (h : 1048576 < n) (hm : n ≤ 9223372036854775807) :
    Calls Try.prog 47 #[.slice A n c, .int .i64 1048576] w fun r w' => r = .returned (.int .i64 (-1)) ∧ w = w' := by
  have h1 : (1048576 : Int) < (n : Int) := by omega
  have h2 : (n : Int) ≤ 9223372036854775807 := by omega
  go_enter Try.func47, Try.ntmps47
  go_wp2
  go_ret
  exact ⟨rfl, rfl⟩

set_option maxHeartbeats 800000 in
theorem toBid_any (q : Bt) (W : World) :
    Calls Try.prog 99 #[bV q] W fun r W' => r = .returned (bV q) ∧ Below W.heap.size W W' := by
  obtain ⟨e, p, s⟩ := q
  unfold bV
  go_enter Try.func99, Try.ntmps99
  go_wp2
  go_returns
  exact ⟨rfl, by go_grown⟩

theorem beq_false1 {a b c d e f : Int} (h : (a != d) = true) : decide ((a, b, c) = (d, e, f)) = false := by
  rw [decide_eq_false_iff_not]
  intro h2
  injection h2 with e1 e2
  simp [e1] at h

theorem beq_false2 {a b c d e f : Int} (h : (b != e) = true) : decide ((a, b, c) = (d, e, f)) = false := by
  rw [decide_eq_false_iff_not]
  intro h2
  injection h2 with e1 e2
  injection e2 with e3 e4
  simp [e3] at h

theorem beq_false3 {a b c d e f : Int} (h : (c != f) = true) : decide ((a, b, c) = (d, e, f)) = false := by
  rw [decide_eq_false_iff_not]
  intro h2
  injection h2 with e1 e2
  injection e2 with e3 e4
  simp [e4] at h

def bBlk (b : Bt) : Obj := .cells #[.int .i64 b.1, .int .i64 b.2.1, .int .i64 b.2.2] 28

set_option maxHeartbeats 1000000 in
theorem eqBid_any (q r : Bt) (W : World) :
    Calls Try.prog 100 #[bV q, bV r] W fun e W' => e = .returned (.bool (decide (q = r))) ∧ W' = (W.alloc (bBlk q)).alloc (bBlk r) := by
  obtain ⟨a, b, c⟩ := q
  obtain ⟨d, e, f⟩ := r
  unfold bV bBlk
  by_cases h1 : a = d
  · subst h1
    by_cases h2 : b = e
    · subst h2
      by_cases h3 : c = f
      · subst h3
        go_enter Try.func100, Try.ntmps100
        go_wp2
        go_ret
        exact ⟨ret_bool (by simp), rfl⟩
      · have h3 : (c != f) = true := by simpa using h3
        go_enter Try.func100, Try.ntmps100
        go_wp2
        go_ret
        exact ⟨ret_bool (beq_false3 h3).symm, rfl⟩
    · have h3 : (b != e) = true := by simpa using h2
      go_enter Try.func100, Try.ntmps100
      go_wp2
      go_ret
      exact ⟨ret_bool (beq_false2 h3).symm, rfl⟩
  · have h3 : (a != d) = true := by simpa using h1
    go_enter Try.func100, Try.ntmps100
    go_wp2
    go_ret
    exact ⟨ret_bool (beq_false1 h3).symm, rfl⟩

theorem Try_bidinfo : (Try.prog.info? 28).map (fun i => (i.zero, i.size, i.bytes)) = some (some (.agg #[.int .i64 0, .int .i64 0, .int .i64 0]), 3, 24) := by kernel_rfl

/-- a fresh row of bets -/
def NewBs (bs : List Bt) (w : World) (e : Ending) (w' : World) : Prop := ∃ v, e = .returned v ∧ BOwn w' w.heap.size v bs ∧ Below w.heap.size w w'

abbrev BFill (w : World) (bs : List Bt) (k : Nat) (wr : World) : Prop := GFill 28 3 bC ((0, 0, 0) : Bt) w bs k wr

set_option maxHeartbeats 2000000 in
theorem toBidS_any (w : World) (v : Value) (bs : List Bt) (hv : BRd w v bs) (hn : bs.length ≤ 1048576) :
    Calls Try.prog 48 #[v] w (NewBs bs w) := by
  obtain ⟨A, c, rfl, hl, hm⟩ := hv.form
  have HV := Lib.hid hv
  clear hv
  obtain ⟨i0, hi, hz0, hz1, hz2⟩ := info_parts Try_bidinfo
  go_enter Try.func48, Try.ntmps48
  go_wp2_with (at_make; refine wpList_make_full _ rfl _ _ 23 rfl w.heap.size 28 i0 (.agg #[.int .i64 0, .int .i64 0, .int .i64 0]) 3 Try.underlying23 hi hz0 hz1 .i64 .i64 _ _ bs.length rfl rfl rfl rfl ?b2 ?b3 (Nat.le_refl _) ?_)
  case b2 => first | omega | (rw [hz2]; omega)
  case b3 => unfold maxLen; omega
  intro w0 hown0 hgrow0
  have H0 : Hid (BFill w bs 0 w0) := Lib.hid (GFill.start bC_len (by decide) (0, 0, 0) hown0 rfl rfl hgrow0)
  clear hown0 hgrow0 hi hz0 hz1 hz2
  go_wp2_with fail
  go_loopw [4] (fun i wr => ∃ k : Nat, i = .int .i64 k ∧ k ≤ bs.length ∧ Hid (BFill w bs k wr)) (fun i _ => bs.length - (intOf i).toNat)
  case atStart => exact ⟨0, rfl, Nat.zero_le _, H0⟩
  case round =>
    obtain ⟨k, rfl, hk, H⟩ := hrel
    clear H0
    by_cases hlt : k < bs.length
    · obtain ⟨b, off, q, rfl, -, hx, hc0, hc1, hc2⟩ := BRd.at_ (HV.out.keep (SameAt.of_below H.out.2)) hlt
      have HX := Lib.hid hx
      clear hx
      go_wp2_with fail
      refine (toBid_any q _).mono ?_
      rintro r w2 ⟨rfl, b2⟩
      unfold bV
      have H2 := Lib.hid (H.out.keep b2)
      clear b2 hc0 hc1 hc2 H
      obtain ⟨hf0, o0, ho0⟩ := H2.out.old bC_len hlt (j := 0) (by decide)
      obtain ⟨hf1, o1, ho1⟩ := H2.out.old bC_len hlt (j := 1) (by decide)
      obtain ⟨hf2, o2, ho2⟩ := H2.out.old bC_len hlt (j := 2) (by decide)
      rw [Nat.add_zero] at hf0 ho0
      go_wp2_with fail
      go_roundw
      case rel => exact ⟨k + 1, by go_num, by omega, (show Hid _ from H2.out.step3 bC_len HX.out rfl)⟩
      case measure => simp [intOf]; omega
    · go_wp2_with fail
      go_ret
      obtain ⟨h1, h2⟩ := H.out.all (by omega)
      exact ⟨_, rfl, h1, h2⟩

/-- up to place k both rows are alike -/
def bagree (xs ys : List Bt) (k : Nat) : Prop := ∀ i, i < k → xs[i]? = ys[i]?

theorem bagree_all {xs ys : List Bt} (hl : xs.length = ys.length) (h : bagree xs ys xs.length) : xs = ys := by
  apply List.ext_getElem?
  intro i
  by_cases hi : i < xs.length
  · exact h i hi
  · rw [List.getElem?_eq_none (by omega), List.getElem?_eq_none (by omega)]

theorem bagree_succ {xs ys : List Bt} {k : Nat} (h : bagree xs ys k) (hk : xs[k]? = ys[k]?) : bagree xs ys (k + 1) := by
  intro i hi
  rcases Nat.lt_succ_iff_lt_or_eq.1 hi with h1 | h1
  · exact h i h1
  · subst h1; exact hk

def BEqPost (xs ys : List Bt) (w : World) (e : Ending) (w' : World) : Prop := e = .returned (.bool (decide (xs = ys))) ∧ Below w.heap.size w w'

set_option maxHeartbeats 4000000 in
theorem eqBidS_any (w : World) (v u : Value) (xs ys : List Bt) (hv : BRd w v xs) (hu : BRd w u ys) :
    Calls Try.prog 49 #[v, u] w (BEqPost xs ys w) := by
  obtain ⟨A, c, rfl, hl, hm⟩ := hv.form
  obtain ⟨A', c', rfl, hl', hm'⟩ := hu.form
  have HV := Lib.hid hv
  have HU := Lib.hid hu
  clear hv hu
  by_cases hlen : xs.length = ys.length
  · have h1 : ((xs.length : Int) == (ys.length : Int)) = true := by simp; omega
    have h2 : ((xs.length : Int) != (ys.length : Int)) = false := by simp; omega
    have HL := Lib.hid hlen
    clear hlen
    go_enter Try.func49, Try.ntmps49
    go_wp2
    clear h1 h2
    go_loopw [5] (fun i wr => ∃ k : Nat, i = .int .i64 k ∧ k ≤ xs.length ∧ Hid (bagree xs ys k) ∧ Hid (Below w.heap.size w wr)) (fun i _ => xs.length - (intOf i).toNat)
    case atStart => exact ⟨0, rfl, Nat.zero_le _, Lib.hid (fun i hi => absurd hi (Nat.not_lt_zero _)), Lib.hid (Below.refl _ _)⟩
    case round =>
      obtain ⟨k, rfl, hk, HA, HB⟩ := hrel
      by_cases hlt : k < xs.length
      · obtain ⟨b, off, x, rfl, -, hx, hx0, hx1, hx2⟩ := BRd.at_ (HV.out.keep (SameAt.of_below HB.out)) hlt
        obtain ⟨b', off', y, rfl, -, hy, hy0, hy1, hy2⟩ := BRd.at_ (HU.out.keep (SameAt.of_below HB.out)) (k := k) (by have := HL.out; omega)
        have hlt' : k < ys.length := by have := HL.out; omega
        have HX := Lib.hid hx
        have HY := Lib.hid hy
        clear hx hy
        rcases Bool.eq_false_or_eq_true (decide (x = y)) with hxy | hxy
        · have HXY : Hid (x = y) := Lib.hid (by simpa using hxy)
          go_wp2_with fail
          go_region_with (go_at_call 100; refine (eqBid_any x y _).mono ?_; rintro r w2 ⟨rfl, rfl⟩; rw [hxy]; unfold bBlk)
          all_goals
            go_wp2_with fail
            go_roundw
            case rel => exact ⟨k + 1, by go_num, by omega, Lib.hid (bagree_succ HA.out (HX.out.trans (HXY.out ▸ HY.out.symm))), Lib.hid (below_step HB.out (by go_grown) HB.out.size)⟩
            case measure => simp [intOf]; omega
        · have HXY : Hid (x ≠ y) := Lib.hid (by simpa using hxy)
          go_wp2_with fail
          go_region_with (go_at_call 100; refine (eqBid_any x y _).mono ?_; rintro r w2 ⟨rfl, rfl⟩; rw [hxy]; unfold bBlk)
          all_goals
            go_wp2_with fail
            go_ret
            exact ⟨ret_bool (by symm; simp only [decide_eq_false_iff_not]; intro e; subst e; exact HXY.out (Option.some.inj (HX.out.symm.trans HY.out))), below_step HB.out (by go_grown) HB.out.size⟩
      · go_wp2_with fail
        go_ret
        exact ⟨ret_bool (by symm; simp only [decide_eq_true_eq]; exact bagree_all HL.out (by have := HA.out; rwa [show k = xs.length from by omega] at this)), HB.out⟩
  · have h1 : ((xs.length : Int) == (ys.length : Int)) = false := by simp; omega
    have h2 : ((xs.length : Int) != (ys.length : Int)) = true := by simp; omega
    have HL := Lib.hid hlen
    clear hlen
    go_enter Try.func49, Try.ntmps49
    go_wp2
    go_ret
    exact ⟨ret_bool (by symm; simp only [decide_eq_false_iff_not]; intro e; exact HL.out (by rw [e])), Below.refl _ _⟩

/-- the numbers from k on, three for each bet -/
def bUp (q : Int) (xs : List Bt) (k : Nat) : List Bt := (List.range k).map (fun i : Nat => (q + 3 * (i : Int), q + 3 * (i : Int) + 1, q + 3 * (i : Int) + 2)) ++ xs.drop k

theorem bUp_len (q : Int) (xs : List Bt) {k : Nat} (hk : k ≤ xs.length) : (bUp q xs k).length = xs.length := by simp [bUp]; omega

theorem bUp_set (q : Int) (xs : List Bt) {k : Nat} (hk : k < xs.length) : (bUp q xs k).set k (q + 3 * (k : Int), q + 3 * (k : Int) + 1, q + 3 * (k : Int) + 2) = bUp q xs (k + 1) := by
  unfold bUp
  rw [List.set_append_right _ _ (by simp), List.length_map, List.length_range, Nat.sub_self, List.drop_eq_getElem_cons hk, List.set_cons_zero, List.range_succ, List.map_append, List.append_assoc]
  rfl

theorem bUp_zero (q : Int) (xs : List Bt) : bUp q xs 0 = xs := by simp [bUp]

/-- the row of v is marked, and nothing else written -/
def BMarked (base : Nat) (q : Int) (v : Value) (xs : List Bt) (w : World) (e : Ending) (w' : World) : Prop :=
  e = .returned (.int .i64 (q + 3 * (xs.length : Nat))) ∧ w.grownBy w' v.ownBlock ∧ w'.heap.size = w.heap.size ∧ BOwn w' base v (bUp q xs xs.length)

def BMarkRel (w : World) (base : Nat) (q : Int) (v : Value) (xs : List Bt) (k : Nat) (wr : World) : Prop :=
  BOwn wr base v (bUp q xs k) ∧ w.grownBy wr v.ownBlock ∧ wr.heap.size = w.heap.size

theorem BMarkRel.step {w wr : World} {base g cap n : Nat} {q : Int} {xs : List Bt} {k : Nat} (h : BMarkRel w base q (.slice (some ⟨g, 0, none⟩) n cap) xs k wr) (hn : xs.length = n) (hk : k < n) :
    BMarkRel w base q (.slice (some ⟨g, 0, none⟩) n cap) xs (k + 1) (((wr.setCell ⟨g, k * 3, none⟩ (.int .i64 (q + 3 * (k : Int)))).setCell ⟨g, k * 3 + 1, none⟩ (.int .i64 (q + 3 * (k : Int) + 1))).setCell ⟨g, k * 3 + 2, none⟩ (.int .i64 (q + 3 * (k : Int) + 2))) := by
  subst hn
  obtain ⟨h1, h2, h5⟩ := h
  have hl := bUp_len q xs (Nat.le_of_lt hk)
  rw [← hl] at h1
  obtain ⟨h3, h4⟩ := GOwn.set3 (cp := cap) (x := (q + 3 * (k : Int), q + 3 * (k : Int) + 1, q + 3 * (k : Int) + 2)) bC_len h1 (by rw [hl]; exact hk) rfl
  rw [bUp_set q xs hk, hl] at h3
  exact ⟨h3, ⟨h4.os.trans h2.os, h4.tape.trans h2.tape, h4.output.trans h2.output, Nat.le_trans h2.size h4.size, fun i hi hne => (h4.block i (by omega) hne).trans (h2.block i hi hne)⟩, by simpa using h5⟩

set_option maxHeartbeats 2000000 in
theorem markBidS_any (w : World) (base : Nat) (q : Int) (v : Value) (xs : List Bt) (hv : BOwn w base v xs) (hn : xs.length ≤ 1048576) (hq0 : 0 ≤ q) (hq : q ≤ 1000000000) :
    Calls Try.prog 52 #[v, .int .i64 q] w (BMarked base q v xs w) := by
  have H0 : Hid (BMarkRel w base q v xs 0 w) := Lib.hid ⟨by rw [bUp_zero]; exact hv, World.grownBy.refl _ _, rfl⟩
  rcases hv.2 with ⟨rfl, h0⟩ | ⟨g, cap, cur, rfl, -, -, hcap, hcm, -, -⟩
  · have hx : xs = [] := List.eq_nil_of_length_eq_zero h0
    subst hx
    have HVN := Lib.hid hv
    clear hv h0
    go_enter Try.func52, Try.ntmps52
    go_wp2_with fail
    refine wp_loop_rounds 1 ?_
    rw [rounds_succ]
    go_wp2_with fail
    go_ret
    exact ⟨ret_int (by simp), World.grownBy.refl _ _, rfl, HVN.out⟩
  · clear hv
    rw [maxLen_is] at hcm
    go_enter Try.func52, Try.ntmps52
    go_wp2_with fail
    go_loopw [1, 5] (fun c i wr => ∃ k : Nat, i = .int .i64 k ∧ c = .int .i64 (q + 3 * (k : Int)) ∧ k ≤ xs.length ∧ Hid (BMarkRel w base q (.slice (some ⟨g, 0, none⟩) xs.length cap) xs k wr)) (fun _ i _ => xs.length - (intOf i).toNat)
    case atStart => exact ⟨0, rfl, by simp, Nat.zero_le _, H0⟩
    case round =>
      obtain ⟨k, rfl, rfl, hk, H⟩ := hrel
      clear H0
      by_cases hlt : k < xs.length
      · obtain ⟨hf0, o0, ho0⟩ := H.out.1.old bC_len (bUp_len q xs hk) hlt (j := 0) (by decide)
        obtain ⟨hf1, o1, ho1⟩ := H.out.1.old bC_len (bUp_len q xs hk) hlt (j := 1) (by decide)
        obtain ⟨hf2, o2, ho2⟩ := H.out.1.old bC_len (bUp_len q xs hk) hlt (j := 2) (by decide)
        rw [Nat.add_zero] at hf0 ho0
        go_wp2_with fail
        go_roundw
        case rel => exact ⟨k + 1, by go_num, by go_num, by omega, Lib.hid (by have h9 := H.out.step rfl hlt; rwa [show q + 3 * (k : Int) + 2 = q + 3 * (k : Int) + 1 + 1 from by omega] at h9)⟩
        case measure => simp [intOf]; omega
      · go_wp2_with fail
        go_ret
        obtain ⟨h1, h2, h3⟩ := H.out
        exact ⟨ret_int (by omega), h2, h3, by rwa [show k = xs.length from by omega] at h1⟩

theorem bUp_at (q : Int) (xs : List Bt) {k : Nat} (hk : k < xs.length) : (bUp q xs xs.length)[k]? = some (q + 3 * (k : Int), q + 3 * (k : Int) + 1, q + 3 * (k : Int) + 2) := by
  unfold bUp
  rw [List.getElem?_append_left (by simp; omega), List.getElem?_map, List.getElem?_range hk]; rfl

end Go.Proofs.Ytodmgcbcacblbaa
