/- What is drawn for gambles: one gamble. Conditions: a reader; at most four worlds. What is drawn for gambles: the walk of one gamble. Conditions: a reader; at most four worlds. What is drawn for chapter 2 where one gamble is drawn. Conditions: a row of bytes that came in. -/
import Derived.Test.YteljcicdibbhdaaKit
import Derived.Deep.AppendLies
namespace Go.Proofs.Yteljcicdibbhdaa
open Go.RowKit
set_option linter.unusedVariables false

theorem grow_trans {w w1 w2 : World} {r : Option Nat} (h : w.grownBy w1 r) (k : w1.grownBy w2 r) : w.grownBy w2 r :=
  ⟨k.os.trans h.os, k.tape.trans h.tape, k.output.trans h.output, Nat.le_trans h.size k.size, fun i hi hne => (k.block i (by have := h.size; omega) hne).trans (h.block i hi hne)⟩

theorem grow_far {w w1 w2 : World} {r s : Option Nat} (h : w.grownBy w1 r) (k : w1.grownBy w2 s) (hs : ∀ g, s = some g → w.heap.size ≤ g) : w.grownBy w2 r :=
  ⟨k.os.trans h.os, k.tape.trans h.tape, k.output.trans h.output, Nat.le_trans h.size k.size, fun i hi hne => (k.block i (by have := h.size; omega) (fun e => by have := hs i e.symm; omega)).trans (h.block i hi hne)⟩

/-- the reader R, and a row that was made behind w; all else that was there is as it was -/
def GamRel (w : World) (R P : Nat) (p : Value) (xs : List Int) (wr : World) : Prop := Rd wr R P ∧ IOwn wr w.heap.size p xs ∧ w.grownBy wr (some R) ∧ R < w.heap.size

theorem GamRel.picked {w wr w' : World} {R P Q : Nat} {p : Value} {xs : List Int} (h : GamRel w R P p xs wr) (k : Picked R Q wr w') : GamRel w R Q p xs w' := by
  obtain ⟨h1, h2, h3, h4⟩ := h
  refine ⟨k.rd, h2.keep (SameAt.of_grown k.grown ?_), grow_trans h3 k.grown, h4⟩
  rcases hv : p.ownBlock with _ | g
  · exact .inl rfl
  · refine .inr fun e => ?_
    have := (h2.ge g hv).1
    injection e with e
    omega

theorem GamRel.append {w wr w' : World} {R P : Nat} {p p' : Value} {xs ys : List Int} (h : GamRel w R P p xs wr) (ho : IOwn w' w.heap.size p' ys) (hg : wr.grownBy w' p.ownBlock) : GamRel w R P p' ys w' := by
  obtain ⟨h1, h2, h3, h4⟩ := h
  exact ⟨h1.grown hg (fun g hg' => by have := (h2.ge g hg').1; omega), ho, grow_far h3 hg (fun g hg' => (h2.ge g hg').1), h4⟩

theorem GamRel.start {w : World} {R P : Nat} (h : Rd w R P) : GamRel w R P (.slice (some ⟨w.heap.size, 0, none⟩) 0 0) [] (w.alloc (.cells #[] 3)) :=
  ⟨h.keep (by simp) (fun b hb => Below.heap_alloc w _ b hb), World.ownsRow_lit w #[] 0 (Nat.le_refl _) (by unfold maxLen; omega) rfl, World.grownBy_alloc _ _ _, h.lt⟩

/-- another fresh row, of no element, in the place of the first one -/
theorem GamRel.anew {w wr : World} {R P : Nat} {p : Value} {xs : List Int} (h : GamRel w R P p xs wr) : GamRel w R P (.slice (some ⟨wr.heap.size, 0, none⟩) 0 0) [] (wr.alloc (.cells #[] 3)) := by
  obtain ⟨h1, h2, h3, h4⟩ := h
  exact ⟨h1.keep (by simp) (fun b hb => Below.heap_alloc wr _ b hb), World.ownsRow_lit wr #[] 0 h3.size (by unfold maxLen; omega) rfl, grow_trans h3 (World.grownBy_alloc _ _ _), h4⟩

def Amt (B : Int) (xs : List Int) : Prop := ∀ x ∈ xs, -B ≤ x ∧ x ≤ B

theorem Amt.snoc {B : Int} {xs : List Int} {y : Int} (h : Amt B xs) (hy : -B ≤ y ∧ y ≤ B) : Amt B (xs ++ [y]) := by
  intro x hx
  rcases List.mem_append.1 hx with h1 | h1
  · exact h x h1
  · simp at h1; subst h1; exact hy

theorem Amt.mono {B C : Int} {xs : List Int} (h : Amt B xs) (hBC : B ≤ C) : Amt C xs := fun x hx => by have := h x hx; omega

theorem Amt.at_ {B : Int} {xs : List Int} (h : Amt B xs) {k : Nat} {x : Int} (hx : xs[k]? = some x) : -B ≤ x ∧ x ≤ B := h x (List.mem_of_getElem? hx)

/-- the first k are multiplied by 90 -/
def mul90 (xs : List Int) (k : Nat) : List Int := (xs.take k).map (· * 90) ++ xs.drop k

theorem mul90_len (xs : List Int) (k : Nat) (hk : k ≤ xs.length) : (mul90 xs k).length = xs.length := by simp [mul90]; omega

theorem mul90_at {xs : List Int} {k : Nat} {x : Int} (hx : xs[k]? = some x) : (mul90 xs k)[k]? = some x := by
  have hk : k < xs.length := by
    rcases Nat.lt_or_ge k xs.length with h1 | h1
    · exact h1
    · rw [List.getElem?_eq_none h1] at hx; cases hx
  unfold mul90
  rw [List.getElem?_append_right (by simp; omega)]
  simp [Nat.min_eq_left (Nat.le_of_lt hk), hx]

theorem mul90_set {xs : List Int} {k : Nat} {x : Int} (hx : xs[k]? = some x) : (mul90 xs k).set k (x * 90) = mul90 xs (k + 1) := by
  have hk : k < xs.length := by
    rcases Nat.lt_or_ge k xs.length with h1 | h1
    · exact h1
    · rw [List.getElem?_eq_none h1] at hx; cases hx
  have hx' : xs[k] = x := by rw [List.getElem?_eq_getElem hk] at hx; exact Option.some.inj hx
  unfold mul90
  have hlen : ((xs.take k).map (· * 90)).length = k := by simp; omega
  rw [List.set_append_right _ _ (by omega), hlen, Nat.sub_self, List.drop_eq_getElem_cons hk, List.set_cons_zero, List.take_succ_eq_append_getElem hk, List.map_append, hx']
  simp

theorem mul90_zero (xs : List Int) : mul90 xs 0 = xs := by simp [mul90]

theorem mul90_amt {xs : List Int} (h : Amt 12 xs) (k : Nat) : Amt 1080 (mul90 xs k) := by
  intro x hx
  rcases List.mem_append.1 hx with h1 | h1
  · obtain ⟨y, hy, rfl⟩ := List.mem_map.1 h1
    have := h y (List.mem_of_mem_take hy)
    show -1080 ≤ y * 90 ∧ y * 90 ≤ 1080
    omega
  · have := h x (List.mem_of_mem_drop h1); omega

theorem map_set_int (xs : List Int) (k : Nat) (x : Int) : (xs.map (Value.int .i64)).set k (.int .i64 x) = (xs.set k x).map (Value.int .i64) := by
  rw [List.map_set]

/-- a store into the row -/
theorem GamRel.store {w wr : World} {R P g n cap : Nat} {xs : List Int} {k : Nat} {x : Int} (h : GamRel w R P (.slice (some ⟨g, 0, none⟩) n cap) xs wr) (hn : xs.length = n) :
    GamRel w R P (.slice (some ⟨g, 0, none⟩) n cap) (xs.set k x) (wr.setCell ⟨g, k, none⟩ (.int .i64 x)) := by
  subst hn
  have ho := h.2.1
  unfold IOwn at ho
  obtain ⟨h3, h4⟩ := ho.stored k (.int .i64 x)
  refine h.append ?_ h4
  unfold IOwn
  rw [List.length_set, ← map_set_int]
  exact h3

theorem GamRel.cell {w wr : World} {R P g n cap : Nat} {xs : List Int} {k : Nat} {x : Int} (h : GamRel w R P (.slice (some ⟨g, 0, none⟩) n cap) xs wr) (hx : xs[k]? = some x) : wr.cell? ⟨g, k, none⟩ = some (.int .i64 x) := by
  have hk : k < xs.length := by
    rcases Nat.lt_or_ge k xs.length with h1 | h1
    · exact h1
    · rw [List.getElem?_eq_none h1] at hx; cases hx
  obtain ⟨A, c, e, hl, hm, hc⟩ := h.2.1.rd
  injection e with e1 e2 e3
  obtain ⟨b, off, hA, -, hcell⟩ := hc (by omega)
  rw [← e1] at hA
  injection hA with hA
  injection hA with hb ho
  subst hb
  subst ho
  simpa using hcell k x hx

theorem GamRel.frozen {w wr : World} {R P g n cap : Nat} {xs : List Int} (h : GamRel w R P (.slice (some ⟨g, 0, none⟩) n cap) xs wr) (k : Nat) : wr.frozen? ⟨g, k, none⟩ = false := by
  have ho := h.2.1
  unfold IOwn at ho
  rcases ho.2 with ⟨e, -⟩ | ⟨g', cap', cur, e, hb, hg, rest⟩
  · cases e
  · injection e with e1 e2 e3
    injection e1 with e1
    injection e1 with e1
    subst e1
    simp [World.frozen?, hg]

theorem GamRel.mono {w wr : World} {R P Q : Nat} {p : Value} {xs : List Int} (h : GamRel w R P p xs wr) (hPQ : P ≤ Q) : GamRel w R Q p xs wr := ⟨h.1.mono hPQ, h.2⟩

theorem GamRel.form {w wr : World} {R P : Nat} {p : Value} {xs : List Int} (h : GamRel w R P p xs wr) (hn : 0 < xs.length) : ∃ g cap, p = .slice (some ⟨g, 0, none⟩) xs.length cap ∧ xs.length ≤ cap ∧ cap ≤ 9223372036854775807 := by
  obtain ⟨g, cap, e, -, -⟩ := World.ownsRow.form h.2.1 hn
  obtain ⟨A, c, e', hl, hm, -⟩ := h.2.1.rd
  rw [e] at e'
  injection e' with e1 e2 e3
  exact ⟨g, cap, e, by omega, by omega⟩

def GamPost (w : World) (R P : Nat) (e : Ending) (w' : World) : Prop := ∃ v xs, e = .returned v ∧ GamRel w R P v xs w' ∧ xs.length ≤ 8 ∧ Amt 1080 xs

end Go.Proofs.Yteljcicdibbhdaa

namespace Go.Proofs.Yteljcicdibbhdaa
open Go.RowKit
set_option linter.unusedVariables false

theorem four_int {x : Int} : ∀ u ∈ [Value.int .i64 x, .int .i64 x, .int .i64 x, .int .i64 x], u.oneCell' = true := by
  intro u hu
  simp only [List.mem_cons, List.not_mem_nil, or_false, or_self] at hu
  subst hu
  rfl

theorem amt_zeros {xs : List Int} {B : Int} (h : Amt B xs) (hB : 0 ≤ B) : Amt B (xs ++ [0, 0, 0, 0]) := by
  intro x hx
  rcases List.mem_append.1 hx with h1 | h1
  · exact h x h1
  · simp at h1; subst h1; omega

set_option maxHeartbeats 8000000 in
theorem l20Gamble_any (w : World) (R P : Nat) (n m : Int) (hP : P ≤ 100000) (h : Rd w R P) (h1 : 1 ≤ n) (h2 : n ≤ 4) (m1 : 1 ≤ m) (m2 : m ≤ 1000) :
    Calls Try.prog 73 #[.pointer (some ⟨R, 0, none⟩), .int .i64 n, .int .i64 m] w (GamPost w R (P + 12)) := by
  obtain ⟨i0, hi, hz0, hz1, hz2⟩ := info_parts Try_intinfo
  obtain ⟨nw, rfl⟩ : ∃ k : Nat, n = (k : Int) := ⟨n.toNat, by omega⟩
  have hn4 : nw ≤ 4 := by omega
  have hn1 : 1 ≤ nw := by omega
  have H0 : Hid (GamRel w R P (.slice (some ⟨w.heap.size, 0, none⟩) 0 0) [] (w.alloc (.cells #[] 3))) := Lib.hid (GamRel.start h)
  clear h h1 h2
  go_enter Try.func73, Try.ntmps73
  go_wp2_with fail
  go_loopw [7, 8] (fun p c wr => ∃ (k Q : Nat) (xs : List Int), c = .int .i64 k ∧ k ≤ nw ∧ Q ≤ P + 2 * k ∧ xs.length = k ∧ Hid (Amt 12 xs) ∧ Hid (GamRel w R Q p xs wr)) (fun _ c _ => nw - (intOf c).toNat)
  case atStart => exact ⟨0, P, [], rfl, Nat.zero_le _, by omega, rfl, Lib.hid (fun x hx => by cases hx), H0⟩
  case round =>
    obtain ⟨k, Q, xs, rfl, hk, hQ, hl, HA, HR⟩ := hrel
    clear H0
    by_cases hlt : k < nw
    · have hlt' : (k : Int) < (nw : Int) := by omega
      go_wp2_with fail
      refine (pick_any _ R Q _ (by omega) HR.out.1).mono ?_
      rintro e w4 ⟨v1, rfl, ⟨p1, p2, -⟩, k1⟩
      have p2 := p2 (by decide)
      have H4 := Lib.hid (HR.out.picked k1)
      clear k1
      go_wp2_with fail
      refine (pick_any _ R (Q + 1) _ (by omega) H4.out.1).mono ?_
      rintro e w5 ⟨v2, rfl, ⟨p3, p4, -⟩, k1⟩
      have p4 := p4 (by decide)
      have H5 := Lib.hid (H4.out.picked k1)
      clear k1 H4
      have hown0 := H5.out.2.1
      unfold IOwn at hown0
      have hown := Lib.hid (World.ownsRow.alloc (w := w5) hown0 (.cells #[.int .i64 (v1 - 6 - v2 / 8 * 6)] 3))
      have hsz := H5.out.2.2.1.size
      clear hown0
      go_wp2_with (at_builtin; refine wpList_append_own _ rfl _ _ 41 rfl w.heap.size 3 i0 (.int .i64 0) 1 8 Try.underlying41 hi hz0 hz1 hz2 rfl (by decide) _ _ _ rfl hown.out ⟨w5.heap.size, 0, none⟩ 1 1 [.int .i64 (v1 - 6 - v2 / 8 * 6)] rfl rfl ?c1 one_int ?c3 ?c4 ?c5 ?_)
      case c1 => exact one_new w5 _ _
      case c3 => unfold maxLen; omega
      case c4 => omega
      case c5 => simp; omega
      intro v' w' hown' hgrow _
      have HL := Lib.hid (H5.out.append (show IOwn w' w.heap.size v' (xs ++ [v1 - 6 - v2 / 8 * 6]) from by simpa [IOwn, hl] using hown') (grown_after (w := w5) ((Below.refl _ w5).alloc (Nat.le_refl _) _) hgrow))
      have HA' := Lib.hid (HA.out.snoc (y := v1 - 6 - v2 / 8 * 6) (by omega))
      clear hown' hgrow hown
      go_wp2_with fail
      go_roundw
      case rel => exact ⟨k + 1, Q + 2, xs ++ [v1 - 6 - v2 / 8 * 6], by go_num, by omega, by omega, by simp; omega, HA', HL⟩
      case measure => simp [intOf]; omega
    · have hge : (nw : Int) ≤ (k : Int) := by omega
      obtain rfl : k = nw := by omega
      go_wp2_with fail
      refine (odd_any _ R Q _ m1 (by omega) (by omega) HR.out.1).mono ?_
      rintro e w5 ⟨b, rfl, k1⟩
      have H5 := Lib.hid (HR.out.picked k1)
      clear k1
      cases b
      · go_wp2_with fail
        refine (odd_any _ R (Q + 1) _ (by decide) (by decide) (by omega) H5.out.1).mono ?_
        rintro e w6 ⟨b, rfl, k1⟩
        have H6 := Lib.hid (H5.out.picked k1)
        clear k1 H5
        cases b
        · go_wp2_with fail
          go_ret
          exact ⟨_, _, rfl, H6.out.mono (by omega), by omega, HA.out.mono (by decide)⟩
        · obtain ⟨g, cap, rfl, hc1, hc2⟩ := H6.out.form (by omega)
          rw [hl] at H6 HR hc1 ⊢
          have H7 : Hid (GamRel w R (Q + 2) (.slice (some ⟨g, 0, none⟩) k cap) (mul90 xs 0) w6) := Lib.hid (by rw [mul90_zero]; exact H6.out)
          clear H6 HR
          go_wp2_with fail
          go_loopw [9] (fun c wr => ∃ j : Nat, c = .int .i64 j ∧ j ≤ k ∧ Hid (GamRel w R (Q + 2) (.slice (some ⟨g, 0, none⟩) k cap) (mul90 xs j) wr)) (fun c _ => k - (intOf c).toNat)
          case atStart => exact ⟨0, rfl, Nat.zero_le _, H7⟩
          case round =>
            obtain ⟨j, rfl, hj, H8⟩ := hrel
            clear H7
            by_cases hjlt : j < k
            · have hjl' : (j : Int) < (k : Int) := by omega
              obtain ⟨x, hx⟩ : ∃ x, xs[j]? = some x := ⟨_, List.getElem?_eq_getElem (by omega)⟩
              have hcell := H8.out.cell (mul90_at hx)
              have hfz := H8.out.frozen j
              obtain ⟨hx1, hx2⟩ := HA.out.at_ hx
              have H9 := Lib.hid (H8.out.store (k := j) (x := x * 90) (by rw [mul90_len _ _ (by omega)]; exact hl))
              have HS := Lib.hid (mul90_set hx)
              clear hx
              go_wp2_with fail
              go_roundw
              case rel => exact ⟨j + 1, by go_num, by omega, (show Hid _ from by have := H9.out; rw [HS.out] at this; exact this)⟩
              case measure => simp [intOf]; omega
            · have hjl' : (k : Int) ≤ (j : Int) := by omega
              go_wp2_with fail
              go_ret
              exact ⟨_, _, rfl, H8.out.mono (by omega), by rw [mul90_len _ _ (by omega)]; omega, mul90_amt HA.out _⟩
      · go_wp2_with fail
        refine (pick_any _ R (Q + 1) _ (by omega) H5.out.1).mono ?_
        rintro e w6 ⟨v3, rfl, ⟨p5, p6, -⟩, k1⟩
        have p6 := p6 (by decide)
        have H6 := Lib.hid (H5.out.picked k1)
        clear k1 H5
        obtain rfl | rfl | rfl : v3 = 0 ∨ v3 = 1 ∨ v3 = 2 := by omega
        · have H7 := Lib.hid H6.out.anew
          go_wp2_with fail
          go_ret
          exact ⟨_, _, rfl, H7.out.mono (by omega), by simp, fun x hx => by cases hx⟩
        · have hown0 := H6.out.2.1
          unfold IOwn at hown0
          have hown := Lib.hid (World.ownsRow.alloc (w := w6) hown0 (.cells #[.int .i64 1001] 3))
          have hsz := H6.out.2.2.1.size
          clear hown0
          go_wp2_with (at_builtin; refine wpList_append_own _ rfl _ _ 41 rfl w.heap.size 3 i0 (.int .i64 0) 1 8 Try.underlying41 hi hz0 hz1 hz2 rfl (by decide) _ _ _ rfl hown.out ⟨w6.heap.size, 0, none⟩ 1 1 [.int .i64 1001] rfl rfl ?c1 one_int ?c3 ?c4 ?c5 ?_)
          case c1 => exact one_new w6 _ _
          case c3 => unfold maxLen; omega
          case c4 => omega
          case c5 => simp; omega
          intro v' w' hown' hgrow _
          have HL := Lib.hid (H6.out.append (show IOwn w' w.heap.size v' (xs ++ [1001]) from by simpa [IOwn, hl] using hown') (grown_after (w := w6) ((Below.refl _ w6).alloc (Nat.le_refl _) _) hgrow))
          clear hown' hgrow hown
          go_wp2_with fail
          go_ret
          exact ⟨_, _, rfl, HL.out.mono (by omega), by simp; omega, (HA.out.mono (by decide)).snoc (by decide)⟩
        · have hown0 := H6.out.2.1
          unfold IOwn at hown0
          have hown := Lib.hid (World.ownsRow.alloc (w := w6) hown0 (.cells #[.int .i64 0, .int .i64 0, .int .i64 0, .int .i64 0] 3))
          have hsz := H6.out.2.2.1.size
          clear hown0
          go_wp2_with (at_builtin; refine wpList_append_own _ rfl _ _ 41 rfl w.heap.size 3 i0 (.int .i64 0) 1 8 Try.underlying41 hi hz0 hz1 hz2 rfl (by decide) _ _ _ rfl hown.out ⟨w6.heap.size, 0, none⟩ 4 4 [.int .i64 0, .int .i64 0, .int .i64 0, .int .i64 0] rfl rfl ?c1 four_int ?c3 ?c4 ?c5 ?_)
          case c1 => exact World.news_of_block (heap_alloc_new w6 _)
          case c3 => unfold maxLen; omega
          case c4 => omega
          case c5 => simp; omega
          intro v' w' hown' hgrow _
          have HL := Lib.hid (H6.out.append (show IOwn w' w.heap.size v' (xs ++ [0, 0, 0, 0]) from by simpa [IOwn, hl] using hown') (grown_after (w := w6) ((Below.refl _ w6).alloc (Nat.le_refl _) _) hgrow))
          clear hown' hgrow hown
          go_wp2_with fail
          go_ret
          exact ⟨_, _, rfl, HL.out.mono (by omega), by simp; omega, amt_zeros (HA.out.mono (by decide)) (by decide)⟩

end Go.Proofs.Yteljcicdibbhdaa

namespace Go.Proofs.Yteljcicdibbhdaa
open Go.RowKit
set_option linter.unusedVariables false

/-- a fresh row of few numbers that are not far from nothing -/
def DrawRow (w : World) (e : Ending) (w' : World) : Prop := ∃ v xs, e = .returned v ∧ IOwn w' w.heap.size v xs ∧ xs.length ≤ 8 ∧ Amt 1090 xs ∧ Below w.heap.size w w'

theorem drawn_row {w w1 w2 w3 : World} {P Q : Nat} {v : Value} {xs : List Int} (ho : Opened w w1) (k : Picked w.heap.size P w1 w2) (h : GamRel w2 w.heap.size Q v xs w3) : IOwn w3 w.heap.size v xs ∧ Below w.heap.size w w3 := by
  have h1 := ho.picked k
  exact ⟨h.2.1.base h1.size, h1.grown h.2.2.1 h1.size (fun g hg => by injection hg with hg; omega)⟩

/-- a fresh row and a number -/
def DrawRowNum (w : World) (e : Ending) (w' : World) : Prop := ∃ (v : Value) (xs : List Int) (t : Int), e = .returned (.tuple #[v, .int .i64 t]) ∧ IOwn w' w.heap.size v xs ∧ xs.length ≤ 8 ∧ Amt 1090 xs ∧ -4 ≤ t ∧ t ≤ 1004 ∧ Below w.heap.size w w'

theorem Picked.far {R P : Nat} {w w' : World} {v : Value} {xs : List Int} {base : Nat} (h : Picked R P w w') (o : IOwn w base v xs) (hb : R < base) : IOwn w' base v xs := by
  refine o.keep (SameAt.of_grown h.grown ?_)
  rcases hv : v.ownBlock with _ | g
  · exact .inl rfl
  · refine .inr fun e => ?_
    have := (o.ge g hv).1
    injection e with e
    omega

end Go.Proofs.Yteljcicdibbhdaa
