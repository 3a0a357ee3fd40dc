/- Slices of int: what a value reads as; what the call owns; the contracts of the laws' helpers (toIntS, eqIntS, sameInts, markIntS, heldIntS). Conditions: stated at each. -/
import Derived.Test.YteljcicdibbhdaaEv2
import Derived.Below
import Derived.Laws.OwnMore
import Derived.Deep.Draws
import Derived.Laws.Rows
import Derived.Deep.QuietTactic
import Derived.BigQuiet
import Derived.Lib.Hide
import Derived.IntWalk
import Derived.LoopTactic
namespace Go.Proofs.Yteljcicdibbhdaa
open Go.RowKit
set_option linter.unusedVariables false

theorem maxLen_is : maxLen = 9223372036854775807 := rfl

/-- the value reads as this list of ints -/
def IRd (w : World) (v : Value) (xs : List Int) : Prop :=
  ∃ A c, v = .slice A xs.length c ∧ xs.length ≤ c ∧ c ≤ 9223372036854775807 ∧
    (0 < xs.length → ∃ b off, A = some ⟨b, off, none⟩ ∧ b < w.heap.size ∧ ∀ i x, xs[i]? = some x → w.cell? ⟨b, off + i, none⟩ = some (.int .i64 x))

/-- the call owns this row of ints -/
def IOwn (w : World) (base : Nat) (v : Value) (xs : List Int) : Prop := w.ownsRow base 3 1 v xs.length (xs.map (Value.int .i64))

/-- the block of the value, if it has one and an element, is as it was -/
def SameAt (w w' : World) (v : Value) : Prop := w.heap.size ≤ w'.heap.size ∧ ∀ g, v.ownBlock = some g → g < w.heap.size → w'.heap[g]? = w.heap[g]?

theorem SameAt.of_below {w w' : World} {v : Value} (h : Below w.heap.size w w') : SameAt w w' v := ⟨h.size, fun g _ hg => h.block g hg⟩

theorem SameAt.of_grown {w w' : World} {v : Value} {row : Option Nat} (h : w.grownBy w' row) (hne : v.ownBlock = none ∨ v.ownBlock ≠ row) : SameAt w w' v :=
  ⟨h.size, fun g hg hlt => h.block g hlt (by
    rcases hne with h0 | h0
    · rw [h0] at hg; cases hg
    · rw [← hg]; exact h0)⟩

theorem SameAt.of_lt {B : Nat} {w w' : World} {v : Value} (h : Below B w w') (hv : ∀ g, v.ownBlock = some g → g < B) : SameAt w w' v :=
  ⟨h.size, fun g hg _ => h.block g (hv g hg)⟩

theorem IRd.keep {w w' : World} {v : Value} {xs : List Int} (h : IRd w v xs) (hs : SameAt w w' v) : IRd w' v xs := by
  obtain ⟨A, c, rfl, hl, hm, hc⟩ := h
  refine ⟨A, c, rfl, hl, hm, fun h0 => ?_⟩
  obtain ⟨b, off, rfl, hb, hcell⟩ := hc h0
  have := hs.1
  refine ⟨b, off, rfl, by omega, fun i x hx => (World.cell?_of_block (a := ⟨b, off + i, none⟩) ?_).trans (hcell i x hx)⟩
  exact hs.2 b rfl hb

theorem IOwn.keep {w w' : World} {base : Nat} {v : Value} {xs : List Int} (h : IOwn w base v xs) (hs : SameAt w w' v) : IOwn w' base v xs := by
  refine ⟨h.1, ?_⟩
  rcases h.2 with hn | ⟨g, cap, cur, rfl, hb, hg, rest⟩
  · exact .inl hn
  · exact .inr ⟨g, cap, cur, rfl, hb, (hs.2 g rfl (Array.getElem?_eq_some_iff.1 hg).1).trans hg, rest⟩

theorem IOwn.rd {w : World} {base : Nat} {v : Value} {xs : List Int} (h : IOwn w base v xs) : IRd w v xs := by
  rcases h.2 with ⟨rfl, h0⟩ | ⟨g, cap, cur, rfl, hb, hg, hn, hm, hcs, ht⟩
  · exact ⟨none, 0, by rw [h0], by omega, by omega, fun hp => by omega⟩
  · refine ⟨_, cap, rfl, hn, hm, fun h0 => ⟨g, 0, rfl, (Array.getElem?_eq_some_iff.1 hg).1, fun i x hx => ?_⟩⟩
    have := h.cells (g := g) rfl i (.int .i64 x) (by simp [List.getElem?_map, hx])
    unfold Addr.add at this
    split at this
    · next hi => subst hi; simpa using this
    · simpa using this

theorem IOwn.ge {w : World} {base : Nat} {v : Value} {xs : List Int} (h : IOwn w base v xs) : ∀ g, v.ownBlock = some g → base ≤ g ∧ g < w.heap.size := World.ownsRow.lt h

theorem IOwn.base {w : World} {base base' : Nat} {v : Value} {xs : List Int} (h : IOwn w base v xs) (hb : base' ≤ base) : IOwn w base' v xs := by
  refine ⟨h.1, ?_⟩
  rcases h.2 with hn | ⟨g, cap, cur, rfl, hb', rest⟩
  · exact .inl hn
  · exact .inr ⟨g, cap, cur, rfl, by omega, rest⟩

theorem IOwn.ne {w : World} {b1 b2 : Nat} {v u : Value} {xs ys : List Int} (h : IOwn w b1 v xs) (k : IRd w u ys) (hk : ∀ g, u.ownBlock = some g → g < b1) : v.ownBlock = none ∨ u.ownBlock = none ∨ v.ownBlock ≠ u.ownBlock := by
  rcases hv : v.ownBlock with _ | g
  · exact .inl rfl
  · rcases hu : u.ownBlock with _ | g'
    · exact .inr (.inl rfl)
    · refine .inr (.inr fun e => ?_)
      have := (h.ge g hv).1
      have := hk g' hu
      injection e with e
      omega

theorem IRd.at_ {w : World} {A : Option Addr} {n c : Nat} {xs : List Int} (h : IRd w (.slice A n c) xs) {k : Nat} (hk : k < n) :
    ∃ b off x, A = some ⟨b, off, none⟩ ∧ b < w.heap.size ∧ xs[k]? = some x ∧ w.cell? ⟨b, off + k, none⟩ = some (.int .i64 x) := by
  obtain ⟨A', c', e, hl, hm, hc⟩ := h
  injection e with e1 e2 e3
  subst e1
  obtain ⟨b, off, hA, hb, hcell⟩ := hc (by omega)
  have hx : xs[k]? = some (xs[k]'(by omega)) := List.getElem?_eq_getElem (by omega)
  exact ⟨b, off, _, hA, hb, hx, hcell k _ hx⟩

theorem ret_val {a b : Value} (h : a = b) : Ending.returned a = .returned b := by rw [h]

/-- up to place k both lists are alike -/
def agree (xs ys : List Int) (k : Nat) : Prop := ∀ i, i < k → xs[i]? = ys[i]?

theorem agree_all {xs ys : List Int} (hl : xs.length = ys.length) (h : agree xs ys xs.length) : xs = ys := by
  apply List.ext_getElem?
  intro i
  by_cases hi : i < xs.length
  · exact h i hi
  · rw [List.getElem?_eq_none (by omega), List.getElem?_eq_none (by omega)]

theorem agree_succ {xs ys : List Int} {k : Nat} (h : agree xs ys k) (hk : xs[k]? = ys[k]?) : agree xs ys (k + 1) := by
  intro i hi
  rcases Nat.lt_succ_iff_lt_or_eq.1 hi with h1 | h1
  · exact h i h1
  · subst h1; exact hk

def EqPost (xs ys : List Int) (w : World) (e : Ending) (w' : World) : Prop := ∃ n, e = .returned (.bool (decide (xs = ys))) ∧ w' = w.drewN n

set_option maxHeartbeats 1000000 in
theorem eqIntS_any (w : World) (v u : Value) (xs ys : List Int) (hv : IRd w v xs) (hu : IRd w u ys) :
    Calls Try.prog 44 #[v, u] w (EqPost xs ys w) := by
  obtain ⟨A, c, rfl, hl, hm, hc⟩ := id hv
  obtain ⟨A', c', rfl, hl', hm', hc'⟩ := id hu
  clear hc hc'
  have HV := Lib.hid hv
  have HU := Lib.hid hu
  clear hv hu
  by_cases hlen : xs.length = ys.length
  · have h1 : ((xs.length : Int) == (ys.length : Int)) = true := by simp; omega
    have h2 : ((xs.length : Int) != (ys.length : Int)) = false := by simp; omega
    have HL := Lib.hid hlen
    clear hlen
    go_enter Try.func44, Try.ntmps44
    go_wp2
    clear h1 h2
    go_loopw [5] (fun i wr => ∃ k n : Nat, i = .int .i64 k ∧ k ≤ xs.length ∧ Hid (agree xs ys k) ∧ wr = w.drewN n) (fun i _ => xs.length - (intOf i).toNat)
    case atStart => exact ⟨0, 0, rfl, Nat.zero_le _, fun i hi => absurd hi (Nat.not_lt_zero _), rfl⟩
    case round =>
      obtain ⟨k, n, rfl, hk, HA, rfl⟩ := hrel
      by_cases hlt : k < xs.length
      · obtain ⟨b, off, x, rfl, -, hx, hcx⟩ := HV.out.at_ hlt
        obtain ⟨b', off', y, rfl, -, hy, hcy⟩ := HU.out.at_ (k := k) (by have := HL.out; omega)
        have hlt' : k < ys.length := by have := HL.out; omega
        have HX := Lib.hid hx
        have HY := Lib.hid hy
        clear hx hy
        by_cases hxy : x = y
        · subst hxy
          go_wp2_with fail
          go_quiet (fail)
          go_wp2_with fail
          go_roundw
          case rel => exact ⟨k + 1, _, by go_num, by omega, agree_succ HA.out (HX.out.trans HY.out.symm), rfl⟩
          case measure => simp [intOf]; omega
        · have hne : (x != y) = true := by simpa using hxy
          have HXY := Lib.hid hxy
          clear hxy
          go_wp2_with fail
          go_quiet (fail)
          go_wp2_with fail
          go_ret
          exact ⟨_, ret_bool (by symm; simp only [decide_eq_false_iff_not]; intro e; subst e; exact HXY.out (Option.some.inj (HX.out.symm.trans HY.out))), by first | rfl | exact World.drewN_drewN _ _ _⟩
      · go_wp2_with fail
        go_ret
        exact ⟨n, ret_bool (by symm; simp only [decide_eq_true_eq]; exact agree_all HL.out (by have := HA.out; rwa [show k = xs.length from by omega] at this)), rfl⟩
  · have h1 : ((xs.length : Int) == (ys.length : Int)) = false := by simp; omega
    have h2 : ((xs.length : Int) != (ys.length : Int)) = true := by simp; omega
    have HL := Lib.hid hlen
    clear hlen
    go_enter Try.func44, Try.ntmps44
    go_wp2
    go_ret
    exact ⟨0, ret_bool (by symm; simp only [decide_eq_false_iff_not]; intro e; exact HL.out (by rw [e])), rfl⟩

theorem some_cell {w : World} {base g n cap : Nat} {e : TypeId} {xs : List Value} (h : w.ownsRow base e 1 (.slice (some ⟨g, 0, none⟩) n cap) n xs) {k : Nat} (hk : k < n) : ∃ u, w.cell? ⟨g, k, none⟩ = some u := by
  rw [h.cellAt k (by omega)]
  exact ⟨_, List.getElem?_eq_getElem (by rw [h.1]; omega)⟩

theorem Try_intinfo : (Try.prog.info? 3).map (fun i => (i.zero, i.size, i.bytes)) = some (some (.int .i64 0), 1, 8) := by kernel_rfl

def copied (xs : List Int) (k : Nat) : List Value := (xs.take k).map (Value.int .i64) ++ List.replicate (xs.length - k) (.int .i64 0)

theorem copied_set {xs : List Int} {k : Nat} {x : Int} (h : xs[k]? = some x) : (copied xs k).set k (.int .i64 x) = copied xs (k + 1) := by
  have hk : k < xs.length := by
    rcases Nat.lt_or_ge k xs.length with h1 | h1
    · exact h1
    · rw [List.getElem?_eq_none h1] at h; cases h
  have hx : xs[k] = x := by rw [List.getElem?_eq_getElem hk] at h; exact Option.some.inj h
  unfold copied
  have hlen : ((xs.take k).map (Value.int .i64)).length = k := by simp; omega
  rw [List.set_append_right _ _ (by omega), hlen, Nat.sub_self]
  obtain ⟨m, hm⟩ : ∃ m, xs.length - k = m + 1 := ⟨xs.length - k - 1, by omega⟩
  rw [hm, show xs.length - (k + 1) = m from by omega, List.replicate_succ, List.set_cons_zero, List.take_succ_eq_append_getElem hk, List.map_append, hx]
  simp

theorem copied_all (xs : List Int) : copied xs xs.length = xs.map (Value.int .i64) := by simp [copied]

theorem copied_zero (xs : List Int) : copied xs 0 = List.replicate xs.length (.int .i64 0) := by simp [copied]

/-- a fresh row of ints is handed back, and nothing that was there is written -/
def NewInts (xs : List Int) (w : World) (e : Ending) (w' : World) : Prop := ∃ v, e = .returned v ∧ IOwn w' w.heap.size v xs ∧ Below w.heap.size w w'

def CopyRel (w : World) (xs : List Int) (k : Nat) (wr : World) : Prop :=
  wr.ownsRow w.heap.size 3 1 (.slice (some ⟨w.heap.size, 0, none⟩) xs.length xs.length) xs.length (copied xs k) ∧ Below w.heap.size w wr

theorem CopyRel.step {w wr : World} {xs : List Int} {k : Nat} {x : Int} (h : CopyRel w xs k wr) (hx : xs[k]? = some x) : CopyRel w xs (k + 1) (wr.setCell ⟨w.heap.size, k, none⟩ (.int .i64 x)) := by
  obtain ⟨h1, h2⟩ := h
  obtain ⟨h3, h4⟩ := h1.stored k (.int .i64 x)
  rw [copied_set hx] at h3
  exact ⟨h3, h2.setCell (Nat.le_refl _) _⟩

set_option maxHeartbeats 1000000 in
theorem toIntS_any (w : World) (v : Value) (xs : List Int) (hv : IRd w v xs) (hn : xs.length ≤ 1048576) :
    Calls Try.prog 43 #[v] w (NewInts xs w) := by
  obtain ⟨A, c, rfl, hl, hm, hc⟩ := id hv
  clear hc
  have HV := Lib.hid hv
  clear hv
  obtain ⟨i0, hi, hz0, hz1, hz2⟩ := info_parts Try_intinfo
  go_enter Try.func43, Try.ntmps43
  go_wp2_with (at_make; refine wpList_make_full _ rfl _ _ 41 rfl w.heap.size 3 i0 (.int .i64 0) 1 Try.underlying41 hi hz0 hz1 .i64 .i64 _ _ xs.length rfl rfl rfl rfl ?b2 ?b3 (Nat.le_refl _) ?_)
  case b2 => rw [hz2]; omega
  case b3 => unfold maxLen; omega
  intro w0 hown0 hgrow0
  have H0 : Hid (CopyRel w xs 0 w0) := Lib.hid ⟨by rw [copied_zero]; simpa [toList_madeCells_one, Value.cells] using hown0, (Below.refl _ _).grown hgrow0 (Nat.le_refl _) (fun k hk => by cases hk)⟩
  clear hown0 hgrow0 hi hz0 hz1 hz2
  go_wp2_with fail
  go_loopw [4] (fun i wr => ∃ k : Nat, i = .int .i64 k ∧ k ≤ xs.length ∧ Hid (CopyRel w xs k wr)) (fun i _ => xs.length - (intOf i).toNat)
  case atStart => exact ⟨0, rfl, Nat.zero_le _, H0⟩
  case round =>
    obtain ⟨k, rfl, hk, H⟩ := hrel
    clear H0
    by_cases hlt : k < xs.length
    · obtain ⟨b, off, x, rfl, -, hx, hcx⟩ := (HV.out.keep (SameAt.of_below H.out.2)).at_ hlt
      have hfz := H.out.1.frozenAt k
      obtain ⟨old, hold⟩ := some_cell H.out.1 (k := k) (by omega)
      have HX := Lib.hid hx
      clear hx
      go_wp2_with fail
      go_roundw
      case rel => exact ⟨k + 1, by go_num, by omega, (show Hid _ from H.out.step HX.out)⟩
      case measure => simp [intOf]; omega
    · go_wp2_with fail
      go_ret
      obtain ⟨h1, h2⟩ := H.out
      rw [show k = xs.length from by omega, copied_all] at h1
      exact ⟨_, rfl, h1, h2⟩

/-- the numbers from k on -/
def upFrom (k : Int) : Nat → List Int
  | 0 => []
  | n + 1 => k :: upFrom (k + 1) n

theorem upFrom_len (k : Int) (n : Nat) : (upFrom k n).length = n := by
  induction n generalizing k with
  | zero => rfl
  | succ n ih => simp [upFrom, ih]

theorem upFrom_get (k : Int) (n i : Nat) (h : i < n) : (upFrom k n)[i]? = some (k + i) := by
  induction n generalizing k i with
  | zero => omega
  | succ n ih =>
    cases i with
    | zero => simp [upFrom]
    | succ i => simp only [upFrom, List.getElem?_cons_succ]; rw [ih (k + 1) i (by omega)]; congr 1; omega

def marked (q : Int) (xs : List Int) (k : Nat) : List Value := (upFrom q k).map (Value.int .i64) ++ (xs.drop k).map (Value.int .i64)

theorem upFrom_succ (q : Int) (k : Nat) : upFrom q (k + 1) = upFrom q k ++ [q + k] := by
  induction k generalizing q with
  | zero => simp [upFrom]
  | succ k ih => rw [upFrom, ih (q + 1)]; simp [upFrom]; omega

theorem marked_set (q : Int) (xs : List Int) (k : Nat) (hk : k < xs.length) : (marked q xs k).set k (.int .i64 (q + k)) = marked q xs (k + 1) := by
  unfold marked
  have hlen : ((upFrom q k).map (Value.int .i64)).length = k := by simp [upFrom_len]
  rw [List.set_append_right _ _ (by omega), hlen, Nat.sub_self, upFrom_succ, List.drop_eq_getElem_cons hk, List.map_cons, List.set_cons_zero, List.map_append]
  simp

theorem marked_all (q : Int) (xs : List Int) : marked q xs xs.length = (upFrom q xs.length).map (Value.int .i64) := by simp [marked]

/-- the row of v is marked, and nothing else written -/
def Marked (base : Nat) (q : Int) (v : Value) (n : Nat) (w : World) (e : Ending) (w' : World) : Prop :=
  e = .returned (.int .i64 (q + n)) ∧ IOwn w' base v (upFrom q n) ∧ w.grownBy w' v.ownBlock ∧ w'.heap.size = w.heap.size

def MarkRel (w : World) (base : Nat) (q : Int) (v : Value) (xs : List Int) (k : Nat) (wr : World) : Prop :=
  wr.ownsRow base 3 1 v xs.length (marked q xs k) ∧ w.grownBy wr v.ownBlock ∧ wr.heap.size = w.heap.size

theorem MarkRel.step {w wr : World} {base g cap : Nat} {q : Int} {xs : List Int} {k : Nat} (h : MarkRel w base q (.slice (some ⟨g, 0, none⟩) xs.length cap) xs k wr) (hk : k < xs.length) :
    MarkRel w base q (.slice (some ⟨g, 0, none⟩) xs.length cap) xs (k + 1) (wr.setCell ⟨g, k, none⟩ (.int .i64 (q + k))) := by
  obtain ⟨h1, h2, h5⟩ := h
  obtain ⟨h3, h4⟩ := h1.stored k (.int .i64 (q + k))
  rw [marked_set q xs k hk] at h3
  exact ⟨h3, ⟨h4.os.trans h2.os, h4.tape.trans h2.tape, h4.output.trans h2.output, Nat.le_trans h2.size h4.size, fun i hi hne => (h4.block i (by omega) hne).trans (h2.block i hi hne)⟩, by simpa using h5⟩

def HeldPost (q : Int) (n : Nat) (w : World) (e : Ending) (w' : World) : Prop := e = .returned (.int .i64 (q + n)) ∧ w = w'

end Go.Proofs.Yteljcicdibbhdaa
