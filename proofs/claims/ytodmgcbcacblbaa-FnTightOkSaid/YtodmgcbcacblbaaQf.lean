/- The laws' helpers over quotes: toQuote, toQuoteS, szQuoteS, eqQuote, eqQuoteS, markQuoteS; and stakesOk. Conditions: stated at each. The laws' helpers over rows of quotes: toQuoteS, eqQuoteS, markQuoteS. Conditions: stated at each. -/
import Derived.Test.YtodmgcbcacblbaaQd
namespace Go.Proofs.Ytodmgcbcacblbaa
open Go.RowKit
set_option linter.unusedVariables false

theorem stakes_no1 {ss : List Int} {n : Nat} (h : ss.length ≠ n) : (decide (ss.length = n) && ss.all stB) = false := by rw [decide_eq_false h]; rfl

theorem alls_take {ss : List Int} {k : Nat} {x : Int} (hx : ss[k]? = some x) (h : stB x = true) (ih : ∀ y ∈ ss.take k, stB y = true) : ∀ y ∈ ss.take (k + 1), stB y = true := by
  rw [List.take_add_one, hx]
  intro y hy
  rcases List.mem_append.1 hy with h1 | h1
  · exact ih y h1
  · simp at h1; subst h1; exact h

theorem alls_no {ss : List Int} {k : Nat} {x : Int} (hx : ss[k]? = some x) (h : stB x = false) : ss.all stB = false := by
  rw [← Bool.not_eq_true, List.all_eq_true]
  intro h2
  have := h2 x (List.mem_of_getElem? hx)
  rw [h] at this; cases this

set_option maxHeartbeats 1000000 in
theorem stakesOk_any (w : World) (v u : Value) (qs : List Qt) (ss : List Int) (hv : QRd w v qs) (hu : IRd w u ss) :
    Calls Try.prog 110 #[v, u] w fun r w' => r = .returned (.bool (decide (ss.length = qs.length) && ss.all stB)) ∧ w = w' := by
  obtain ⟨A, c, rfl, hl, hm⟩ := hv.form
  obtain ⟨A', c', rfl, hl', hm', -⟩ := id hu
  have HU := Lib.hid hu
  clear hu hv
  by_cases h : ss.length = qs.length
  · have H := Lib.hid h
    have h' : ((ss.length : Int) == (qs.length : Int)) = true := by simp; omega
    have h'' : ((ss.length : Int) != (qs.length : Int)) = false := by simp; omega
    clear h
    go_enter Try.func110, Try.ntmps110
    go_wp2_with fail
    clear h' h''
    go_loop [14] (fun i => ∃ k : Nat, i = .int .i64 k ∧ k ≤ ss.length ∧ Hid (∀ y ∈ ss.take k, stB y = true)) (fun i => ss.length - (intOf i).toNat)
    case atStart => exact ⟨0, rfl, Nat.zero_le _, Lib.hid (by simp)⟩
    case round =>
      obtain ⟨k, rfl, hk, HA⟩ := hrel
      by_cases hlt : k < ss.length
      · obtain ⟨b, off, x, rfl, -, hx, hcx⟩ := HU.out.at_ hlt
        have HX := Lib.hid hx
        clear hx
        rcases Bool.eq_false_or_eq_true (stB x) with hs | hs
        · have HS := Lib.hid hs
          go_wp2_with fail
          refine (stakeOk_any x _).mono ?_
          rintro r w' ⟨rfl, rfl⟩
          rw [hs]
          go_wp2_with fail
          go_round
          case rel => exact ⟨k + 1, by go_num, by omega, Lib.hid (alls_take HX.out HS.out HA.out)⟩
          case measure => simp [intOf]; omega
        · have HS := Lib.hid hs
          go_wp2_with fail
          refine (stakeOk_any x _).mono ?_
          rintro r w' ⟨rfl, rfl⟩
          rw [hs]
          go_wp2_with fail
          go_ret
          exact ⟨ret_bool (by rw [alls_no HX.out HS.out]; simp), rfl⟩
      · go_wp2_with fail
        go_ret
        exact ⟨ret_bool (by rw [decide_eq_true H.out, List.all_eq_true.2 (by have := HA.out; rwa [List.take_of_length_le (by omega)] at this)]; rfl), rfl⟩
  · have H := Lib.hid h
    have h' : ((ss.length : Int) == (qs.length : Int)) = false := by simp; omega
    have h'' : ((ss.length : Int) != (qs.length : Int)) = true := by simp; omega
    clear h
    go_enter Try.func110, Try.ntmps110
    go_wp2_with fail
    go_ret
    exact ⟨ret_bool (stakes_no1 H.out).symm, rfl⟩

theorem qeq_false1 {a b c d : Int} (h : (a != c) = true) : decide ((a, b) = (c, d)) = false := by
  rw [decide_eq_false_iff_not]
  intro e
  injection e with e1 e2
  simp [e1] at h

theorem qeq_false2 {a b c d : Int} (h : (b != d) = true) : decide ((a, b) = (c, d)) = false := by
  rw [decide_eq_false_iff_not]
  intro e
  injection e with e1 e2
  simp [e2] at h

theorem qeq_true {a b c d : Int} (h : a = c) (k : b = d) : decide ((a, b) = (c, d)) = true := by rw [h, k]; simp

end Go.Proofs.Ytodmgcbcacblbaa

namespace Go.Proofs.Ytodmgcbcacblbaa
open Go.RowKit
set_option linter.unusedVariables false

theorem Try_quoteinfo : (Try.prog.info? 37).map (fun i => (i.zero, i.size, i.bytes)) = some (some (.agg #[.int .i64 0, .int .i64 0]), 2, 16) := by kernel_rfl

/-- a fresh row of quotes -/
def NewQs (qs : List Qt) (w : World) (e : Ending) (w' : World) : Prop := ∃ v, e = .returned v ∧ QOwn w' w.heap.size v qs ∧ Below w.heap.size w w'

abbrev QFill (w : World) (qs : List Qt) (k : Nat) (wr : World) : Prop := GFill 37 2 qC ((0, 0) : Qt) w qs k wr

/-- up to place k both rows are alike -/
def qagree (xs ys : List Qt) (k : Nat) : Prop := ∀ i, i < k → xs[i]? = ys[i]?

theorem qagree_all {xs ys : List Qt} (hl : xs.length = ys.length) (h : qagree xs ys xs.length) : xs = ys := by
  apply List.ext_getElem?
  intro i
  by_cases hi : i < xs.length
  · exact h i hi
  · rw [List.getElem?_eq_none (by omega), List.getElem?_eq_none (by omega)]

theorem qagree_succ {xs ys : List Qt} {k : Nat} (h : qagree xs ys k) (hk : xs[k]? = ys[k]?) : qagree xs ys (k + 1) := by
  intro i hi
  rcases Nat.lt_succ_iff_lt_or_eq.1 hi with h1 | h1
  · exact h i h1
  · subst h1; exact hk

def QEqPost (xs ys : List Qt) (w : World) (e : Ending) (w' : World) : Prop := e = .returned (.bool (decide (xs = ys))) ∧ Below w.heap.size w w'

/-- the numbers from k on, two for each quote -/
def qUp (q : Int) (xs : List Qt) (k : Nat) : List Qt := (List.range k).map (fun i : Nat => (q + 2 * (i : Int), q + 2 * (i : Int) + 1)) ++ xs.drop k

theorem qUp_len (q : Int) (xs : List Qt) {k : Nat} (hk : k ≤ xs.length) : (qUp q xs k).length = xs.length := by simp [qUp]; omega

theorem qUp_set (q : Int) (xs : List Qt) {k : Nat} (hk : k < xs.length) : (qUp q xs k).set k (q + 2 * (k : Int), q + 2 * (k : Int) + 1) = qUp q xs (k + 1) := by
  unfold qUp
  rw [List.set_append_right _ _ (by simp), List.length_map, List.length_range, Nat.sub_self, List.drop_eq_getElem_cons hk, List.set_cons_zero, List.range_succ, List.map_append, List.append_assoc]
  rfl

theorem qUp_zero (q : Int) (xs : List Qt) : qUp q xs 0 = xs := by simp [qUp]

/-- the row of v is marked, and nothing else written -/
def QMarked (base : Nat) (q : Int) (v : Value) (n : Nat) (w : World) (e : Ending) (w' : World) : Prop :=
  e = .returned (.int .i64 (q + 2 * n)) ∧ w.grownBy w' v.ownBlock ∧ w'.heap.size = w.heap.size

def QMarkRel (w : World) (base : Nat) (q : Int) (v : Value) (xs : List Qt) (k : Nat) (wr : World) : Prop :=
  QOwn wr base v (qUp q xs k) ∧ w.grownBy wr v.ownBlock ∧ wr.heap.size = w.heap.size

theorem QMarkRel.step {w wr : World} {base g cap n : Nat} {q : Int} {xs : List Qt} {k : Nat} (h : QMarkRel w base q (.slice (some ⟨g, 0, none⟩) n cap) xs k wr) (hn : xs.length = n) (hk : k < n) :
    QMarkRel w base q (.slice (some ⟨g, 0, none⟩) n cap) xs (k + 1) ((wr.setCell ⟨g, k * 2, none⟩ (.int .i64 (q + 2 * (k : Int)))).setCell ⟨g, k * 2 + 1, none⟩ (.int .i64 (q + 2 * (k : Int) + 1))) := by
  subst hn
  obtain ⟨h1, h2, h5⟩ := h
  have hl := qUp_len q xs (Nat.le_of_lt hk)
  rw [← hl] at h1
  obtain ⟨h3, h4⟩ := GOwn.set2 (cp := cap) (x := (q + 2 * (k : Int), q + 2 * (k : Int) + 1)) qC_len h1 (by rw [hl]; exact hk) rfl
  rw [qUp_set q xs hk, hl] at h3
  exact ⟨h3, ⟨h4.os.trans h2.os, h4.tape.trans h2.tape, h4.output.trans h2.output, Nat.le_trans h2.size h4.size, fun i hi hne => (h4.block i (by omega) hne).trans (h2.block i hi hne)⟩, by simpa using h5⟩

end Go.Proofs.Ytodmgcbcacblbaa
