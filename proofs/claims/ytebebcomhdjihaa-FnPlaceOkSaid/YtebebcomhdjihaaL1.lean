/- Contracts, facts and walks that the laws of this seat lean on, laid together by a program of ours (mkmerge.py) out of: Ev2 Ints Rd2 Kit Gf Qm Qc Qd. Conditions: stated at each. -/
import Derived.Test.YtebebcomhdjihaaRows
import Derived.WalkKit
import Derived.WalkSpells
import Derived.WalkLawsBesides
import Derived.Lib.Hide
import Derived.Below
import Derived.Laws.OwnMore
import Derived.Deep.Draws
import Derived.Laws.Rows
import Derived.Deep.QuietTactic
import Derived.BigQuiet
import Derived.IntWalk
import Derived.LoopTactic
import Derived.BigRegion
import Derived.Deep.AppendLies
import Derived.Deep.RegionLaw
import Derived.Handy
namespace Go.Proofs.Ytebebcomhdjihaa
open Go.RowKit

def wokB (w : Int) : Bool := decide (1 ≤ w) && decide (w ≤ 4)

def allI (w : Int) : Int := 2 ^ w.toNat - 1

def evB (w e : Int) : Bool := decide (1 ≤ w) && decide (w ≤ 4) && decide (0 ≤ e) && decide (e ≤ allI w)

theorem wokB_iff (w : Int) : wokB w = true ↔ 1 ≤ w ∧ w ≤ 4 := by simp [wokB]

theorem evB_iff (w e : Int) : evB w e = true ↔ 1 ≤ w ∧ w ≤ 4 ∧ 0 ≤ e ∧ e ≤ allI w := by simp [evB, and_assoc]

theorem wcases {w : Int} (h1 : 1 ≤ w) (h2 : w ≤ 4) : w = 1 ∨ w = 2 ∨ w = 3 ∨ w = 4 := by omega

set_option maxHeartbeats 400000 in
theorem worldsOk_any (w : Int) (W : World) :
    Calls Try.prog 60 #[.int .i64 w] W fun e W' => e = .returned (.bool (wokB w)) ∧ W = W' := by
  by_cases h1 : 1 ≤ w
  · by_cases h2 : w ≤ 4
    · go_enter Try.func60, Try.ntmps60
      go_wp2
      go_ret
      exact ⟨by simp [wokB, h1, h2], rfl⟩
    · have h3 : decide (w ≤ 4) = false := by simpa using h2
      go_enter Try.func60, Try.ntmps60
      go_wp2
      go_ret
      exact ⟨by rw [wokB, h3]; simp, rfl⟩
  · have h3 : decide (1 ≤ w) = false := by simpa using h1
    go_enter Try.func60, Try.ntmps60
    go_wp2
    go_ret
    exact ⟨by rw [wokB, h3]; simp, rfl⟩

set_option maxHeartbeats 400000 in
theorem allWorlds_any (w : Int) (h1 : 1 ≤ w) (h2 : w ≤ 4) (W : World) :
    Calls Try.prog 61 #[.int .i64 w] W fun e W' => e = .returned (.int .i64 (allI w)) ∧ W = W' := by
  obtain rfl | rfl | rfl | rfl := wcases h1 h2
  all_goals
    go_enter Try.func61, Try.ntmps61
    go_wp2
    go_ret
    exact ⟨rfl, rfl⟩

set_option maxHeartbeats 400000 in
theorem implEventOk_any (w e : Int) (W : World) :
    Calls Try.prog 33 #[.int .i64 w, .int .i64 e] W fun r W' => r = .returned (.bool (evB w e)) ∧ W = W' := by
  by_cases hw : wokB w = true
  · have hw' := (wokB_iff w).1 hw
    by_cases h1 : 0 ≤ e
    · go_enter Try.func33, Try.ntmps33
      go_wp2_with (first
        | (go_at_call 60; refine (worldsOk_any _ _).mono ?_; rintro e w' ⟨rfl, rfl⟩)
        | (go_at_call 61; refine (allWorlds_any _ hw'.1 hw'.2 _).mono ?_; rintro e w' ⟨rfl, rfl⟩))
      go_ret
      exact ⟨by simp [evB, h1, hw'], rfl⟩
    · have h3 : decide (0 ≤ e) = false := by simpa using h1
      go_enter Try.func33, Try.ntmps33
      go_wp2_with (go_at_call 60; refine (worldsOk_any _ _).mono ?_; rintro e w' ⟨rfl, rfl⟩)
      go_ret
      exact ⟨by rw [evB, h3]; simp, rfl⟩
  · have h3 : wokB w = false := by simpa using hw
    go_enter Try.func33, Try.ntmps33
    go_wp2_with (go_at_call 60; refine (worldsOk_any _ _).mono ?_; rintro e w' ⟨rfl, rfl⟩)
    go_ret
    exact ⟨by rw [evB]; rw [wokB] at h3; rw [h3]; simp, rfl⟩

def inB (n lo hi : Int) : Bool := decide (lo ≤ n ∧ n ≤ hi)

theorem inB_iff (n lo hi : Int) : inB n lo hi = true ↔ lo ≤ n ∧ n ≤ hi := by simp [inB]

theorem ret_bool {a b : Bool} (h : a = b) : Ending.returned (.bool a) = .returned (.bool b) := by rw [h]

theorem ret_int {k : IntKind} {a b : Int} (h : a = b) : Ending.returned (.int k a) = .returned (.int k b) := by rw [h]

theorem bool_eq {a b : Bool} (h : a = true ↔ b = true) : a = b := by rw [Bool.eq_iff_iff]; exact h

set_option maxHeartbeats 400000 in
theorem l1In_any (n lo hi : Int) (W : World) :
    Calls Try.prog 40 #[.int .i64 n, .int .i64 lo, .int .i64 hi] W fun r W' => r = .returned (.bool (inB n lo hi)) ∧ W = W' := by
  by_cases h1 : lo ≤ n
  · by_cases h2 : n ≤ hi
    · go_enter Try.func40, Try.ntmps40
      go_wp2
      go_ret
      exact ⟨ret_bool (by simp [inB, h1, h2]), rfl⟩
    · have h3 : decide (n ≤ hi) = false := by simpa using h2
      go_enter Try.func40, Try.ntmps40
      go_wp2
      go_ret
      exact ⟨ret_bool (by simp only [inB]; symm; simpa [h1] using h2), rfl⟩
  · have h3 : decide (lo ≤ n) = false := by simpa using h1
    go_enter Try.func40, Try.ntmps40
    go_wp2
    go_ret
    exact ⟨ret_bool (by simp only [inB]; symm; simp; omega), rfl⟩

set_option maxHeartbeats 400000 in
theorem specEventOk_any (w e : Int) (W : World) :
    Calls Try.prog 92 #[.int .i64 w, .int .i64 e] W fun r W' => r = .returned (.bool (evB w e)) ∧ W = W' := by
  by_cases hw : 1 ≤ w ∧ w ≤ 4
  · obtain ⟨h1, h2⟩ := hw
    have hi : inB w 1 4 = true := (inB_iff _ _ _).2 ⟨h1, h2⟩
    obtain rfl | rfl | rfl | rfl := wcases h1 h2
    all_goals
      go_enter Try.func92, Try.ntmps92
      go_wp2_with (go_at_call 40; refine (l1In_any _ _ _ _).mono ?_; rintro e w' ⟨rfl, rfl⟩)
      go_ret
      exact ⟨ret_bool (bool_eq (by rw [inB_iff, evB_iff]; simp [allI])), rfl⟩
  · have h3 : inB w 1 4 = false := by simp only [inB]; simpa using hw
    go_enter Try.func92, Try.ntmps92
    go_wp2_with (go_at_call 40; refine (l1In_any _ _ _ _).mono ?_; rintro e w' ⟨rfl, rfl⟩)
    go_ret
    exact ⟨ret_bool (by symm; rw [← Bool.not_eq_true, evB_iff]; omega), rfl⟩

end Go.Proofs.Ytebebcomhdjihaa

namespace Go.Proofs.Ytebebcomhdjihaa
open Go.RowKit
set_option linter.unusedVariables false

theorem allI_le {w : Int} (h1 : 1 ≤ w) (h2 : w ≤ 4) : 1 ≤ allI w ∧ allI w ≤ 15 := by
  obtain rfl | rfl | rfl | rfl := wcases h1 h2 <;> decide

theorem evB_15 {w e : Int} (h : evB w e = true) : 0 ≤ e ∧ e ≤ 15 := by
  have h' := (evB_iff w e).1 h
  have := allI_le h'.1 h'.2.1
  omega

theorem fin16 {e : Int} (h1 : 0 ≤ e) (h2 : e ≤ 15) : ∃ k : Fin 16, e = ((k : Nat) : Int) := ⟨⟨e.toNat, by omega⟩, by simp; omega⟩

theorem ev23 : evB 2 3 = true := by decide

theorem ev24 : evB 2 4 = false := by decide

set_option maxHeartbeats 400000 in
theorem alive_any (W : World) :
    Calls Try.prog 12 #[] W fun r W' => r = .returned (.bool true) ∧ W = W' := by
  have h1 := ev23
  have h2 := ev24
  go_enter Try.func12, Try.ntmps12
  go_wp2_with (go_at_call 33; refine (implEventOk_any _ _ _).mono ?_; rintro e w' ⟨rfl, rfl⟩)
  go_ret
  exact ⟨rfl, rfl⟩

end Go.Proofs.Ytebebcomhdjihaa

namespace Go.Proofs.Ytebebcomhdjihaa
open Go.RowKit
set_option linter.unusedVariables false

theorem maxLen_is : maxLen = 9223372036854775807 := rfl

def IRd (w : World) (v : Value) (xs : List Int) : Prop :=
  ∃ A c, v = .slice A xs.length c ∧ xs.length ≤ c ∧ c ≤ 9223372036854775807 ∧
    (0 < xs.length → ∃ b off, A = some ⟨b, off, none⟩ ∧ b < w.heap.size ∧ ∀ i x, xs[i]? = some x → w.cell? ⟨b, off + i, none⟩ = some (.int .i64 x))

def IOwn (w : World) (base : Nat) (v : Value) (xs : List Int) : Prop := w.ownsRow base 3 1 v xs.length (xs.map (Value.int .i64))

def SameAt (w w' : World) (v : Value) : Prop := w.heap.size ≤ w'.heap.size ∧ ∀ g, v.ownBlock = some g → g < w.heap.size → w'.heap[g]? = w.heap[g]?

theorem SameAt.of_below {w w' : World} {v : Value} (h : Below w.heap.size w w') : SameAt w w' v := ⟨h.size, fun g _ hg => h.block g hg⟩

theorem SameAt.of_grown {w w' : World} {v : Value} {row : Option Nat} (h : w.grownBy w' row) (hne : v.ownBlock = none ∨ v.ownBlock ≠ row) : SameAt w w' v :=
  ⟨h.size, fun g hg hlt => h.block g hlt (by
    rcases hne with h0 | h0
    · rw [h0] at hg; cases hg
    · rw [← hg]; exact h0)⟩

theorem SameAt.of_lt {B : Nat} {w w' : World} {v : Value} (h : Below B w w') (hv : ∀ g, v.ownBlock = some g → g < B) : SameAt w w' v :=
  ⟨h.size, fun g hg _ => h.block g (hv g hg)⟩

theorem IRd.keep {w w' : World} {v : Value} {xs : List Int} (h : IRd w v xs) (hs : SameAt w w' v) : IRd w' v xs := by
  obtain ⟨A, c, rfl, hl, hm, hc⟩ := h
  refine ⟨A, c, rfl, hl, hm, fun h0 => ?_⟩
  obtain ⟨b, off, rfl, hb, hcell⟩ := hc h0
  have := hs.1
  refine ⟨b, off, rfl, by omega, fun i x hx => (World.cell?_of_block (a := ⟨b, off + i, none⟩) ?_).trans (hcell i x hx)⟩
  exact hs.2 b rfl hb

theorem IOwn.keep {w w' : World} {base : Nat} {v : Value} {xs : List Int} (h : IOwn w base v xs) (hs : SameAt w w' v) : IOwn w' base v xs := by
  refine ⟨h.1, ?_⟩
  rcases h.2 with hn | ⟨g, cap, cur, rfl, hb, hg, rest⟩
  · exact .inl hn
  · exact .inr ⟨g, cap, cur, rfl, hb, (hs.2 g rfl (Array.getElem?_eq_some_iff.1 hg).1).trans hg, rest⟩

theorem IOwn.rd {w : World} {base : Nat} {v : Value} {xs : List Int} (h : IOwn w base v xs) : IRd w v xs := by
  rcases h.2 with ⟨rfl, h0⟩ | ⟨g, cap, cur, rfl, hb, hg, hn, hm, hcs, ht⟩
  · exact ⟨none, 0, by rw [h0], by omega, by omega, fun hp => by omega⟩
  · refine ⟨_, cap, rfl, hn, hm, fun h0 => ⟨g, 0, rfl, (Array.getElem?_eq_some_iff.1 hg).1, fun i x hx => ?_⟩⟩
    have := h.cells (g := g) rfl i (.int .i64 x) (by simp [List.getElem?_map, hx])
    unfold Addr.add at this
    split at this
    · next hi => subst hi; simpa using this
    · simpa using this

theorem IOwn.ge {w : World} {base : Nat} {v : Value} {xs : List Int} (h : IOwn w base v xs) : ∀ g, v.ownBlock = some g → base ≤ g ∧ g < w.heap.size := World.ownsRow.lt h

theorem IOwn.base {w : World} {base base' : Nat} {v : Value} {xs : List Int} (h : IOwn w base v xs) (hb : base' ≤ base) : IOwn w base' v xs := by
  refine ⟨h.1, ?_⟩
  rcases h.2 with hn | ⟨g, cap, cur, rfl, hb', rest⟩
  · exact .inl hn
  · exact .inr ⟨g, cap, cur, rfl, by omega, rest⟩

theorem IOwn.ne {w : World} {b1 b2 : Nat} {v u : Value} {xs ys : List Int} (h : IOwn w b1 v xs) (k : IRd w u ys) (hk : ∀ g, u.ownBlock = some g → g < b1) : v.ownBlock = none ∨ u.ownBlock = none ∨ v.ownBlock ≠ u.ownBlock := by
  rcases hv : v.ownBlock with _ | g
  · exact .inl rfl
  · rcases hu : u.ownBlock with _ | g'
    · exact .inr (.inl rfl)
    · refine .inr (.inr fun e => ?_)
      have := (h.ge g hv).1
      have := hk g' hu
      injection e with e
      omega

theorem IRd.at_ {w : World} {A : Option Addr} {n c : Nat} {xs : List Int} (h : IRd w (.slice A n c) xs) {k : Nat} (hk : k < n) :
    ∃ b off x, A = some ⟨b, off, none⟩ ∧ b < w.heap.size ∧ xs[k]? = some x ∧ w.cell? ⟨b, off + k, none⟩ = some (.int .i64 x) := by
  obtain ⟨A', c', e, hl, hm, hc⟩ := h
  injection e with e1 e2 e3
  subst e1
  obtain ⟨b, off, hA, hb, hcell⟩ := hc (by omega)
  have hx : xs[k]? = some (xs[k]'(by omega)) := List.getElem?_eq_getElem (by omega)
  exact ⟨b, off, _, hA, hb, hx, hcell k _ hx⟩

def agree (xs ys : List Int) (k : Nat) : Prop := ∀ i, i < k → xs[i]? = ys[i]?

theorem agree_all {xs ys : List Int} (hl : xs.length = ys.length) (h : agree xs ys xs.length) : xs = ys := by
  apply List.ext_getElem?
  intro i
  by_cases hi : i < xs.length
  · exact h i hi
  · rw [List.getElem?_eq_none (by omega), List.getElem?_eq_none (by omega)]

theorem agree_succ {xs ys : List Int} {k : Nat} (h : agree xs ys k) (hk : xs[k]? = ys[k]?) : agree xs ys (k + 1) := by
  intro i hi
  rcases Nat.lt_succ_iff_lt_or_eq.1 hi with h1 | h1
  · exact h i h1
  · subst h1; exact hk

def EqPost (xs ys : List Int) (w : World) (e : Ending) (w' : World) : Prop := ∃ n, e = .returned (.bool (decide (xs = ys))) ∧ w' = w.drewN n

set_option maxHeartbeats 1000000 in
theorem sameInts_any (w : World) (v u : Value) (xs ys : List Int) (hv : IRd w v xs) (hu : IRd w u ys) :
    Calls Try.prog 39 #[v, u] w (EqPost xs ys w) := by
  obtain ⟨A, c, rfl, hl, hm, hc⟩ := id hv
  obtain ⟨A', c', rfl, hl', hm', hc'⟩ := id hu
  clear hc hc'
  have HV := Lib.hid hv
  have HU := Lib.hid hu
  clear hv hu
  by_cases hlen : xs.length = ys.length
  · have h1 : ((xs.length : Int) == (ys.length : Int)) = true := by simp; omega
    have h2 : ((xs.length : Int) != (ys.length : Int)) = false := by simp; omega
    have HL := Lib.hid hlen
    clear hlen
    go_enter Try.func39, Try.ntmps39
    go_wp2
    clear h1 h2
    go_loopw [5] (fun i wr => ∃ k n : Nat, i = .int .i64 k ∧ k ≤ xs.length ∧ Hid (agree xs ys k) ∧ wr = w.drewN n) (fun i _ => xs.length - (intOf i).toNat)
    case atStart => exact ⟨0, 0, rfl, Nat.zero_le _, fun i hi => absurd hi (Nat.not_lt_zero _), rfl⟩
    case round =>
      obtain ⟨k, n, rfl, hk, HA, rfl⟩ := hrel
      by_cases hlt : k < xs.length
      · obtain ⟨b, off, x, rfl, -, hx, hcx⟩ := HV.out.at_ hlt
        obtain ⟨b', off', y, rfl, -, hy, hcy⟩ := HU.out.at_ (k := k) (by have := HL.out; omega)
        have hlt' : k < ys.length := by have := HL.out; omega
        have HX := Lib.hid hx
        have HY := Lib.hid hy
        clear hx hy
        by_cases hxy : x = y
        · subst hxy
          go_wp2_with fail
          go_quiet (fail)
          go_wp2_with fail
          go_roundw
          case rel => exact ⟨k + 1, _, by go_num, by omega, agree_succ HA.out (HX.out.trans HY.out.symm), rfl⟩
          case measure => simp [intOf]; omega
        · have hne : (x != y) = true := by simpa using hxy
          have HXY := Lib.hid hxy
          clear hxy
          go_wp2_with fail
          go_quiet (fail)
          go_wp2_with fail
          go_ret
          exact ⟨_, ret_bool (by symm; simp only [decide_eq_false_iff_not]; intro e; subst e; exact HXY.out (Option.some.inj (HX.out.symm.trans HY.out))), by first | rfl | exact World.drewN_drewN _ _ _⟩
      · go_wp2_with fail
        go_ret
        exact ⟨n, ret_bool (by symm; simp only [decide_eq_true_eq]; exact agree_all HL.out (by have := HA.out; rwa [show k = xs.length from by omega] at this)), rfl⟩
  · have h1 : ((xs.length : Int) == (ys.length : Int)) = false := by simp; omega
    have h2 : ((xs.length : Int) != (ys.length : Int)) = true := by simp; omega
    have HL := Lib.hid hlen
    clear hlen
    go_enter Try.func39, Try.ntmps39
    go_wp2
    go_ret
    exact ⟨0, ret_bool (by symm; simp only [decide_eq_false_iff_not]; intro e; exact HL.out (by rw [e])), rfl⟩

theorem Try_intinfo : (Try.prog.info? 3).map (fun i => (i.zero, i.size, i.bytes)) = some (some (.int .i64 0), 1, 8) := by kernel_rfl

def copied (xs : List Int) (k : Nat) : List Value := (xs.take k).map (Value.int .i64) ++ List.replicate (xs.length - k) (.int .i64 0)

theorem copied_set {xs : List Int} {k : Nat} {x : Int} (h : xs[k]? = some x) : (copied xs k).set k (.int .i64 x) = copied xs (k + 1) := by
  have hk : k < xs.length := by
    rcases Nat.lt_or_ge k xs.length with h1 | h1
    · exact h1
    · rw [List.getElem?_eq_none h1] at h; cases h
  have hx : xs[k] = x := by rw [List.getElem?_eq_getElem hk] at h; exact Option.some.inj h
  unfold copied
  have hlen : ((xs.take k).map (Value.int .i64)).length = k := by simp; omega
  rw [List.set_append_right _ _ (by omega), hlen, Nat.sub_self]
  obtain ⟨m, hm⟩ : ∃ m, xs.length - k = m + 1 := ⟨xs.length - k - 1, by omega⟩
  rw [hm, show xs.length - (k + 1) = m from by omega, List.replicate_succ, List.set_cons_zero, List.take_succ_eq_append_getElem hk, List.map_append, hx]
  simp

theorem copied_all (xs : List Int) : copied xs xs.length = xs.map (Value.int .i64) := by simp [copied]

def NewInts (xs : List Int) (w : World) (e : Ending) (w' : World) : Prop := ∃ v, e = .returned v ∧ IOwn w' w.heap.size v xs ∧ Below w.heap.size w w'

def CopyRel (w : World) (xs : List Int) (k : Nat) (wr : World) : Prop :=
  wr.ownsRow w.heap.size 3 1 (.slice (some ⟨w.heap.size, 0, none⟩) xs.length xs.length) xs.length (copied xs k) ∧ Below w.heap.size w wr

theorem CopyRel.step {w wr : World} {xs : List Int} {k : Nat} {x : Int} (h : CopyRel w xs k wr) (hx : xs[k]? = some x) : CopyRel w xs (k + 1) (wr.setCell ⟨w.heap.size, k, none⟩ (.int .i64 x)) := by
  obtain ⟨h1, h2⟩ := h
  obtain ⟨h3, h4⟩ := h1.stored k (.int .i64 x)
  rw [copied_set hx] at h3
  exact ⟨h3, h2.setCell (Nat.le_refl _) _⟩

def upFrom (k : Int) : Nat → List Int
  | 0 => []
  | n + 1 => k :: upFrom (k + 1) n

theorem upFrom_len (k : Int) (n : Nat) : (upFrom k n).length = n := by
  induction n generalizing k with
  | zero => rfl
  | succ n ih => simp [upFrom, ih]

def marked (q : Int) (xs : List Int) (k : Nat) : List Value := (upFrom q k).map (Value.int .i64) ++ (xs.drop k).map (Value.int .i64)

theorem upFrom_succ (q : Int) (k : Nat) : upFrom q (k + 1) = upFrom q k ++ [q + k] := by
  induction k generalizing q with
  | zero => simp [upFrom]
  | succ k ih => rw [upFrom, ih (q + 1)]; simp [upFrom]; omega

theorem marked_set (q : Int) (xs : List Int) (k : Nat) (hk : k < xs.length) : (marked q xs k).set k (.int .i64 (q + k)) = marked q xs (k + 1) := by
  unfold marked
  have hlen : ((upFrom q k).map (Value.int .i64)).length = k := by simp [upFrom_len]
  rw [List.set_append_right _ _ (by omega), hlen, Nat.sub_self, upFrom_succ, List.drop_eq_getElem_cons hk, List.map_cons, List.set_cons_zero, List.map_append]
  simp

def MarkRel (w : World) (base : Nat) (q : Int) (v : Value) (xs : List Int) (k : Nat) (wr : World) : Prop :=
  wr.ownsRow base 3 1 v xs.length (marked q xs k) ∧ w.grownBy wr v.ownBlock ∧ wr.heap.size = w.heap.size

theorem MarkRel.step {w wr : World} {base g cap : Nat} {q : Int} {xs : List Int} {k : Nat} (h : MarkRel w base q (.slice (some ⟨g, 0, none⟩) xs.length cap) xs k wr) (hk : k < xs.length) :
    MarkRel w base q (.slice (some ⟨g, 0, none⟩) xs.length cap) xs (k + 1) (wr.setCell ⟨g, k, none⟩ (.int .i64 (q + k))) := by
  obtain ⟨h1, h2, h5⟩ := h
  obtain ⟨h3, h4⟩ := h1.stored k (.int .i64 (q + k))
  rw [marked_set q xs k hk] at h3
  exact ⟨h3, ⟨h4.os.trans h2.os, h4.tape.trans h2.tape, h4.output.trans h2.output, Nat.le_trans h2.size h4.size, fun i hi hne => (h4.block i (by omega) hne).trans (h2.block i hi hne)⟩, by simpa using h5⟩

end Go.Proofs.Ytebebcomhdjihaa

namespace Go.Proofs.Ytebebcomhdjihaa
open Go.RowKit
set_option linter.unusedVariables false

def Blk (w : World) (g : Nat) (t : TypeId) (cs : Array Value) : Prop := w.heap[g]? = some (.cells cs t (0, 0))

theorem Blk.lt {w : World} {g : Nat} {t : TypeId} {cs : Array Value} (h : Blk w g t cs) : g < w.heap.size := by
  rcases Nat.lt_or_ge g w.heap.size with hlt | hge
  · exact hlt
  · unfold Blk at h; rw [Array.getElem?_eq_none hge] at h; cases h

theorem Blk.cell {w : World} {g : Nat} {t : TypeId} {cs : Array Value} (h : Blk w g t cs) (i : Nat) : w.cell? ⟨g, i, none⟩ = cs[i]? := cell_of_row w g i cs t (0, 0) h

theorem Blk.frozen {w : World} {g : Nat} {t : TypeId} {cs : Array Value} (h : Blk w g t cs) (i : Nat) : w.frozen? ⟨g, i, none⟩ = false := by
  unfold Blk at h
  simp [World.frozen?, h]

theorem Blk.set_ {w : World} {g : Nat} {t : TypeId} {cs : Array Value} (h : Blk w g t cs) (i : Nat) (u : Value) : Blk (w.setCell ⟨g, i, none⟩ u) g t (cs.setIfInBounds i u) := by
  unfold Blk at h ⊢
  simp [World.setCell, Array.getElem?_modify, h]

def Byts (w : World) (R : Nat) (A : Option Addr) (n : Nat) : Prop :=
  n ≤ 2000 ∧ (0 < n → ∃ b off, A = some ⟨b, off, none⟩ ∧ b < R ∧ b < w.heap.size ∧ ∀ i, i < n → ∃ v : Nat, v ≤ 255 ∧ w.cell? ⟨b, off + i, none⟩ = some (.int .u8 (v : Int)))

def Rd (w : World) (R P : Nat) : Prop := ∃ A n cap, ∃ p : Nat, Blk w R 83 #[.slice A n cap, .int .i64 (p : Int)] ∧ p ≤ P ∧ Byts w R A n

structure Picked (R P : Nat) (w w' : World) : Prop where
  grown : w.grownBy w' (some R)
  size : w'.heap.size = w.heap.size
  rd : Rd w' R P

def PickV (n v : Int) : Prop := 0 ≤ v ∧ (1 ≤ n → v < n) ∧ (n < 1 → v = 0)

def PickPost (R P : Nat) (n : Int) (w : World) (e : Ending) (w' : World) : Prop := ∃ v : Int, e = .returned (.int .i64 v) ∧ PickV n v ∧ Picked R P w w'

theorem setp_grown (w : World) (R : Nat) (u : Value) (k : Nat) : w.grownBy ((w.setCell ⟨R, 1, none⟩ u).drewN k) (some R) :=
  ⟨rfl, rfl, rfl, by simp [World.setCell], fun g hg hne => by
    show (w.setCell ⟨R, 1, none⟩ u).heap[g]? = w.heap[g]?
    exact Below.heap_setCell w ⟨R, 1, none⟩ u g (fun e => hne (by rw [e]))⟩

theorem setp_byts {w : World} {R : Nat} {A : Option Addr} {n : Nat} (h : Byts w R A n) (u : Value) (k : Nat) : Byts ((w.setCell ⟨R, 1, none⟩ u).drewN k) R A n := by
  refine ⟨h.1, fun hn => ?_⟩
  obtain ⟨b, off, e, hb, hl, hc⟩ := h.2 hn
  refine ⟨b, off, e, hb, by simpa using hl, fun i hi => ?_⟩
  obtain ⟨v, hv, hcell⟩ := hc i hi
  refine ⟨v, hv, ?_⟩
  rw [World.cell?_drewN, World.cell?_setCell_other w ⟨R, 1, none⟩ ⟨b, off + i, none⟩ u (fun e => by injection e with e1; omega)]
  exact hcell

theorem setp_picked {w : World} {R P : Nat} {A : Option Addr} {n cap p : Nat} (hB : Blk w R 83 #[.slice A n cap, .int .i64 (p : Int)]) (hp : p ≤ P) (hy : Byts w R A n) (k : Nat) :
    Picked R (P + 1) w ((w.setCell ⟨R, 1, none⟩ (.int .i64 ((p : Int) + 1))).drewN k) :=
  ⟨setp_grown w R _ k, by simp [World.setCell], ⟨A, n, cap, p + 1, hB.set_ 1 _, by omega, setp_byts hy _ k⟩⟩

theorem setp_picked0 {w : World} {R P : Nat} {A : Option Addr} {n cap p : Nat} (hB : Blk w R 83 #[.slice A n cap, .int .i64 (p : Int)]) (hp : p ≤ P) (hy : Byts w R A n) :
    Picked R (P + 1) w (w.setCell ⟨R, 1, none⟩ (.int .i64 ((p : Int) + 1))) := setp_picked hB hp hy 0

theorem xor_nonneg (a : Int) (h1 : 0 ≤ a) (h2 : a < 4611686018427387904) : 0 ≤ bits BinOp.xor IntKind.i64 a (a / 64) ∧ bits BinOp.xor IntKind.i64 a (a / 64) < 4611686018427387904 := by
  obtain ⟨n, rfl⟩ : ∃ n : Nat, a = n := ⟨a.toNat, by omega⟩
  have hd : ((n : Int) / 64) = ((n / 64 : Nat) : Int) := by omega
  have hx : n ^^^ n / 64 < 2 ^ 62 := Nat.xor_lt_two_pow (by omega) (by omega)
  have e1 : (BitVec.ofInt 64 (n : Int)).toNat = n := by
    rw [BitVec.ofInt_natCast, BitVec.toNat_ofNat]; exact Nat.mod_eq_of_lt (by omega)
  have e2 : (BitVec.ofInt 64 ((n / 64 : Nat) : Int)).toNat = n / 64 := by
    rw [BitVec.ofInt_natCast, BitVec.toNat_ofNat]; exact Nat.mod_eq_of_lt (by omega)
  rw [hd]
  have : bits BinOp.xor IntKind.i64 (n : Int) ((n / 64 : Nat) : Int) = ((n ^^^ n / 64 : Nat) : Int) := by
    show IntKind.i64.wrap ((BitVec.ofInt 64 (n : Int) ^^^ BitVec.ofInt 64 ((n / 64 : Nat) : Int)).toNat : Int) = _
    rw [BitVec.toNat_xor, e1, e2]
    exact IntWalk.i64_in _ (by omega)
  rw [this]
  omega

set_option maxHeartbeats 1000000 in
set_option maxRecDepth 100000 in
theorem pick_any (w : World) (R P : Nat) (n : Int) (hP : P ≤ 1000000) (h : Rd w R P) :
    Calls Try.prog 56 #[.pointer (some ⟨R, 0, none⟩), .int .i64 n] w (PickPost R (P + 1) n w) := by
  obtain ⟨A, len, cap, p, hB, hp, hy⟩ := h
  have c0 : w.cell? ⟨R, 0, none⟩ = some (.slice A len cap) := hB.cell 0
  have c1 : w.cell? ⟨R, 1, none⟩ = some (.int .i64 (p : Int)) := hB.cell 1
  have hf : w.frozen? ⟨R, 1, none⟩ = false := hB.frozen 1
  have hz : len ≤ 2000 := hy.1
  have HB := Lib.hid hB
  have HY := Lib.hid hy
  clear hB hy
  by_cases hn : n < 1
  · go_enter Try.func56, Try.ntmps56
    go_wp2
    go_ret
    exact ⟨0, rfl, ⟨by omega, by omega, by omega⟩, setp_picked0 HB.out hp HY.out⟩
  · have hn' : decide (n < 1) = false := by simpa using hn
    by_cases hl : len = 0
    · subst hl
      go_enter Try.func56, Try.ntmps56
      go_wp2
      go_ret
      exact ⟨0, rfl, ⟨by omega, by omega, by omega⟩, setp_picked0 HB.out hp HY.out⟩
    · have hl' : ((len : Int) == 0) = false := by simpa using hl
      have hl0 : 0 < len := by omega
      obtain ⟨b, off, rfl, hbR, -, hc⟩ := HY.out.2 (by omega)
      by_cases hk : p < len
      · obtain ⟨v, hv, hcv⟩ := hc p hk
        clear hc hl hn
        have hv2 : (0 : Int) ≤ v := by omega
        have hn1 : 1 ≤ n := by simpa using hn'
        go_enter Try.func56, Try.ntmps56
        go_wp2
        go_ret
        exact ⟨(v : Int) % n, rfl, ⟨Int.emod_nonneg _ (by omega), fun _ => Int.emod_lt_of_pos _ (by omega), by omega⟩, setp_picked0 HB.out hp HY.out⟩
      · have hk' : decide (p < len) = false := by simpa using hk
        have hn1 : 1 ≤ n := by simpa using hn'
        have m1 : p % len < len := Nat.mod_lt _ hl0
        have m2 : (p * 7 + 3) % len < len := Nat.mod_lt _ hl0
        obtain ⟨v1, hv1, hc1⟩ := hc (p % len) m1
        obtain ⟨v2, hv2, hc2⟩ := hc ((p * 7 + 3) % len) m2
        clear hc hl hn hk
        have hl1 : (1 : Int) ≤ (len : Int) := by omega
        obtain ⟨i1, hi1⟩ : ∃ i : Nat, p % len = i := ⟨_, rfl⟩
        obtain ⟨i2, hi2⟩ : ∃ i : Nat, (p * 7 + 3) % len = i := ⟨_, rfl⟩
        obtain ⟨d, hd⟩ : ∃ i : Nat, p / len = i := ⟨_, rfl⟩
        have hdp : d ≤ p := by rw [← hd]; exact Nat.div_le_self _ _
        rw [hi1] at m1 hc1
        rw [hi2] at m2 hc2
        have e1 : (p : Int).tmod (len : Int) = (i1 : Int) := by rw [Int.tmod_eq_emod_of_nonneg (by omega), ← hi1]; rfl
        have e2 : ((p * 7 + 3 : Nat) : Int).tmod (len : Int) = (i2 : Int) := by rw [Int.tmod_eq_emod_of_nonneg (by omega), ← hi2]; rfl
        have e3 : (p : Int).tdiv (len : Int) = (d : Int) := by rw [Int.tdiv_eq_ediv_of_nonneg (by omega), ← hd]; rfl
        clear hi1 hi2 hd
        obtain ⟨a3, h3⟩ : ∃ a : Nat, p * 7 + 3 = a := ⟨_, rfl⟩
        rw [h3] at e2
        have q0 : IntKind.i64.wrap (v1 : Int) = (v1 : Int) := IntWalk.i64_in _ (by omega)
        have q1 : IntKind.i64.wrap (v2 : Int) = (v2 : Int) := IntWalk.i64_in _ (by omega)
        obtain ⟨a1, h1⟩ : ∃ a : Nat, v1 * 131 = a := ⟨_, rfl⟩
        have q2 : IntKind.i64.wrap ((v1 : Int) * 131) = (a1 : Int) := by rw [IntWalk.i64_in _ (by omega)]; omega
        obtain ⟨a2, h2⟩ : ∃ a : Nat, p * 7 = a := ⟨_, rfl⟩
        have q3 : IntKind.i64.wrap ((p : Int) * 7) = (a2 : Int) := by rw [IntWalk.i64_in _ (by omega)]; omega
        have q4 : IntKind.i64.wrap ((a2 : Int) + 3) = (a3 : Int) := by rw [IntWalk.i64_in _ (by omega)]; omega
        obtain ⟨a4, h4⟩ : ∃ a : Nat, v2 * 1117 = a := ⟨_, rfl⟩
        have q5 : IntKind.i64.wrap ((v2 : Int) * 1117) = (a4 : Int) := by rw [IntWalk.i64_in _ (by omega)]; omega
        obtain ⟨a5, h5⟩ : ∃ a : Nat, a1 + a4 = a := ⟨_, rfl⟩
        have q6 : IntKind.i64.wrap ((a1 : Int) + (a4 : Int)) = (a5 : Int) := by rw [IntWalk.i64_in _ (by omega)]; omega
        obtain ⟨a6, h6⟩ : ∃ a : Nat, p * 29 = a := ⟨_, rfl⟩
        have q7 : IntKind.i64.wrap ((p : Int) * 29) = (a6 : Int) := by rw [IntWalk.i64_in _ (by omega)]; omega
        obtain ⟨a7, h7⟩ : ∃ a : Nat, a5 + a6 = a := ⟨_, rfl⟩
        have q8 : IntKind.i64.wrap ((a5 : Int) + (a6 : Int)) = (a7 : Int) := by rw [IntWalk.i64_in _ (by omega)]; omega
        have q9 : IntKind.i64.wrap (d : Int) = (d : Int) := IntWalk.i64_in _ (by omega)
        obtain ⟨a9, h9⟩ : ∃ a : Nat, d * 53 = a := ⟨_, rfl⟩
        have q10 : IntKind.i64.wrap ((d : Int) * 53) = (a9 : Int) := by rw [IntWalk.i64_in _ (by omega)]; omega
        obtain ⟨a10, h10⟩ : ∃ a : Nat, a7 + a9 = a := ⟨_, rfl⟩
        have q11 : IntKind.i64.wrap ((a7 : Int) + (a9 : Int)) = (a10 : Int) := by rw [IntWalk.i64_in _ (by omega)]; omega
        have hb10 : a10 ≤ 1000000000 := by omega
        obtain ⟨x1, x2⟩ := xor_nonneg (a10 : Int) (by omega) (by omega)
        have m1' : (i1 : Int) < (len : Int) := by omega
        have m2' : (i2 : Int) < (len : Int) := by omega
        have z1 : (0 : Int) ≤ (i1 : Int) := by omega
        have z2 : (0 : Int) ≤ (i2 : Int) := by omega
        clear h1 h2 h3 h4 h5 h6 h7 h9 h10
        go_enter Try.func56, Try.ntmps56
        go_wp2_with fail
        go_quiet (fail)
        clear q0 q1 q2 q3 q4 q5 q6 q7 q8 q9 q10 q11 e1 e2 e3
        go_wp2
        go_ret
        exact ⟨bits BinOp.xor IntKind.i64 (a10 : Int) ((a10 : Int) / 64) % n, rfl, ⟨Int.emod_nonneg _ (by omega), fun _ => Int.emod_lt_of_pos _ (by omega), by omega⟩, setp_picked HB.out hp HY.out _⟩

end Go.Proofs.Ytebebcomhdjihaa

namespace Go.Proofs.Ytebebcomhdjihaa
open Go.RowKit
set_option linter.unusedVariables false

def IsRowC (k : IntKind) (w : World) (a : Option Addr) (len cap : Nat) (zs : List Int) : Prop :=
  (a = none ∧ len = 0 ∧ cap = 0 ∧ zs = []) ∨
  ∃ x, a = some x ∧ len ≤ cap ∧ cap ≤ maxLen ∧ zs.length = cap ∧ (∀ i, i < zs.length → w.cell? (x.add i) = some (.int k (zs.getD i 0))) ∧ ∀ n ∈ zs, (Lit.int k n).wf = true

theorem u8_of {l : List Int} (h : ∀ n ∈ l, (Lit.int .u8 n).wf = true) (i : Nat) : ∃ v : Nat, v ≤ 255 ∧ l.getD i 0 = (v : Int) := by
  by_cases hi : i < l.length
  · have e : l.getD i 0 = l[i] := by simp [List.getElem?_eq_getElem hi]
    have := h _ (List.getElem_mem hi)
    simp only [Lit.wf, Bool.and_eq_true, IntKind.min, IntKind.max, IntKind.signed, IntKind.bits] at this
    simp at this
    exact ⟨l[i].toNat, by omega, by rw [e]; omega⟩
  · exact ⟨0, by omega, by simp [List.getElem?_eq_none (Nat.le_of_not_lt hi)]⟩

theorem addr_add (b off i : Nat) : (⟨b, off, none⟩ : Addr).add i = ⟨b, off + i, none⟩ := by
  unfold Addr.add; split
  · next h => rw [h]; rfl
  · rfl

theorem bytes_of_row {w : World} {a : Option Addr} {len cap : Nat} {zs : List Int} (h : IsRowC .u8 w a len cap zs) {n : Nat} (hn : n ≤ len) (h2 : n ≤ 2000) (R : Nat) (hR : w.heap.size ≤ R) : Byts w R a n := by
  refine ⟨h2, fun h0 => ?_⟩
  rcases h with ⟨rfl, rfl, rfl, rfl⟩ | ⟨x, rfl, hl, hm, hz, hcell, hwz⟩
  · omega
  · obtain ⟨b, off, spot⟩ := x
    have hc := hcell 0 (by omega)
    have hspot : spot = none := by simpa [Addr.add] using World.cell?_spot hc
    subst hspot
    have hlt := World.block_lt_of_cell? w _ hc
    rw [addr_add] at hlt
    refine ⟨b, off, rfl, by simp at hlt; omega, hlt, fun i hi => ?_⟩
    obtain ⟨v, hv, e⟩ := u8_of hwz i
    refine ⟨v, hv, ?_⟩
    have := hcell i (by omega)
    rw [addr_add, e] at this
    exact this

theorem Byts.more {w w' : World} {R : Nat} {A : Option Addr} {n : Nat} (h : Byts w R A n) (hs : w.heap.size ≤ w'.heap.size) (hb : ∀ b, b < w.heap.size → b < R → w'.heap[b]? = w.heap[b]?) : Byts w' R A n := by
  refine ⟨h.1, fun hn => ?_⟩
  obtain ⟨b, off, e, hR, hl, hc⟩ := h.2 hn
  refine ⟨b, off, e, hR, by omega, fun i hi => ?_⟩
  obtain ⟨v, hv, hcell⟩ := hc i hi
  exact ⟨v, hv, (World.cell?_of_block (a := ⟨b, off + i, none⟩) (hb b hl hR)).trans hcell⟩

theorem Blk.more {w w' : World} {g : Nat} {t : TypeId} {cs : Array Value} (h : Blk w g t cs) (hb : w'.heap[g]? = w.heap[g]?) : Blk w' g t cs := hb.trans h

theorem Rd.keep {w w' : World} {R P : Nat} (h : Rd w R P) (hs : w.heap.size ≤ w'.heap.size) (hb : ∀ b, b < w.heap.size → w'.heap[b]? = w.heap[b]?) : Rd w' R P := by
  obtain ⟨A, n, cap, p, hB, hp, hy⟩ := h
  exact ⟨A, n, cap, p, hB.more (hb R hB.lt), hp, hy.more hs fun b hl _ => hb b hl⟩

theorem Rd.grown {w w' : World} {R P : Nat} {row : Option Nat} (h : Rd w R P) (hg : w.grownBy w' row) (hr : ∀ g, row = some g → R < g) : Rd w' R P := by
  obtain ⟨A, n, cap, p, hB, hp, hy⟩ := h
  exact ⟨A, n, cap, p, hB.more (hg.block R hB.lt (fun e => by have := hr R e.symm; omega)), hp, hy.more hg.size fun b hl hlt => hg.block b hl (fun e => by have := hr b e.symm; omega)⟩

theorem Rd.lt {w : World} {R P : Nat} (h : Rd w R P) : R < w.heap.size := by
  obtain ⟨A, n, cap, p, hB, hp, hy⟩ := h
  exact hB.lt

theorem Rd.mono {w : World} {R P Q : Nat} (h : Rd w R P) (hPQ : P ≤ Q) : Rd w R Q := by
  obtain ⟨A, n, cap, p, hB, hp, hy⟩ := h
  exact ⟨A, n, cap, p, hB, by omega, hy⟩

theorem Picked.below {R P B : Nat} {w w' : World} (h : Picked R P w w') (hB : B ≤ R) (hR : R < w.heap.size) : Below B w w' :=
  ⟨h.grown.os, h.grown.tape, h.grown.output, h.grown.size, fun k hk => h.grown.block k (by omega) (fun e => by injection e with e; omega)⟩

theorem Picked.trans {R P Q : Nat} {w w1 w2 : World} (h : Picked R P w w1) (k : Picked R Q w1 w2) : Picked R Q w w2 :=
  ⟨⟨k.grown.os.trans h.grown.os, k.grown.tape.trans h.grown.tape, k.grown.output.trans h.grown.output, Nat.le_trans h.grown.size k.grown.size,
    fun i hi hne => (k.grown.block i (by have := h.size; omega) hne).trans (h.grown.block i hi hne)⟩, k.size.trans h.size, k.rd⟩

structure Opened (w w' : World) : Prop where
  below : Below w.heap.size w w'
  size : w'.heap.size = w.heap.size + 1
  rd : Rd w' w.heap.size 0

def OpenPost (w : World) (e : Ending) (w' : World) : Prop := e = .returned (.pointer (some ⟨w.heap.size, 0, none⟩)) ∧ Opened w w'

theorem opened_mk {w : World} {a : Option Addr} {n cap : Nat} (hy : Byts w w.heap.size a n) : Opened w (w.alloc (.cells #[.slice a n cap, .int .i64 0] 83)) :=
  ⟨(Below.refl _ _).alloc (Nat.le_refl _) _, by simp, ⟨a, n, cap, 0, heap_alloc_new w _, by omega, hy.more (by simp) fun b hl _ => Below.heap_alloc w _ b hl⟩⟩

set_option maxHeartbeats 400000 in
theorem open_any (w : World) (a : Option Addr) (len cap : Nat) (zs : List Int) (h : IsRowC .u8 w a len cap zs) :
    Calls Try.prog 32 #[.slice a len cap] w (OpenPost w) := by
  have H := Lib.hid h
  by_cases hl : len ≤ 2000
  · clear h
    go_enter Try.func32, Try.ntmps32
    go_wp2
    go_ret
    exact ⟨rfl, opened_mk (bytes_of_row H.out (Nat.le_refl _) hl _ (Nat.le_refl _))⟩
  · have hl' : 2000 < len := by omega
    rcases h with ⟨rfl, rfl, rfl, rfl⟩ | ⟨x, rfl, hlc, hm, hz, -, -⟩
    · omega
    · have hcap : (2000 : Int) ≤ (cap : Int) := by omega
      clear hz
      go_enter Try.func32, Try.ntmps32
      go_wp2
      go_ret
      exact ⟨rfl, opened_mk (bytes_of_row H.out (by omega) (Nat.le_refl _) _ (Nat.le_refl _))⟩

end Go.Proofs.Ytebebcomhdjihaa

namespace Go.Proofs.Ytebebcomhdjihaa
open Go.RowKit
set_option linter.unusedVariables false

theorem SameAt.grow {w w' : World} {v : Value} {o : Obj} (h : w' = w.alloc o) : SameAt w w' v := by
  subst h
  exact ⟨by simp, fun g _ hg => Below.heap_alloc w o g hg⟩

theorem grown_after {w w1 w2 : World} {row : Option Nat} (h : Below w.heap.size w w1) (k : w1.grownBy w2 row) : w.grownBy w2 row :=
  ⟨k.os.trans h.os, k.tape.trans h.tape, k.output.trans h.output, Nat.le_trans h.size k.size, fun i hi hne => (k.block i (Nat.lt_of_lt_of_le hi h.size) hne).trans (h.block i hi)⟩

theorem one_int {x : Int} : ∀ u ∈ [Value.int .i64 x], u.oneCell' = true := by
  intro u hu
  rw [List.mem_singleton] at hu
  subst hu
  rfl

theorem one_new (w : World) (x : Value) (t : TypeId) : ∀ j u, [x][j]? = some u → (w.alloc (.cells #[x] t)).cell? ((⟨w.heap.size, 0, none⟩ : Addr).add j) = some u := by
  intro j u hu
  rcases j with _ | j
  · simp at hu; subst hu; simp [Addr.add]
  · simp at hu

theorem nil_own (w : World) (base : Nat) : IOwn w base (.slice none 0 0) [] := by simpa [IOwn] using World.ownsRow_nil w base 3 1

theorem below_drewN {B : Nat} {w w' : World} (h : Below B w w') (q : Nat) : Below B w (w'.drewN q) := ⟨h.os, h.tape, h.output, h.size, h.block⟩

theorem below_step {B : Nat} {w w1 w2 : World} (h : Below B w w1) (k : Below w1.heap.size w1 w2) (hB : B ≤ w1.heap.size) : Below B w w2 := h.trans (k.mono hB)

theorem below_grown {B : Nat} {w w1 w2 : World} {v : Value} {base : Nat} {xs : List Int} (h : Below B w w1) (k : w1.grownBy w2 v.ownBlock) (o : IOwn w1 base v xs) (hb : B ≤ base) (hB : B ≤ w1.heap.size) : Below B w w2 :=
  h.grown k hB (fun g hg => by have := (o.ge g hg).1; omega)

theorem Opened.picked {w w1 w2 : World} {P : Nat} (h : Opened w w1) (k : Picked w.heap.size P w1 w2) : Below w.heap.size w w2 :=
  h.below.trans (k.below (Nat.le_refl _) (by have := h.size; omega))

def OddPost (R P : Nat) (w : World) (e : Ending) (w' : World) : Prop := ∃ b : Bool, e = .returned (.bool b) ∧ Picked R P w w'

set_option maxHeartbeats 400000 in
theorem odd_any (w : World) (R P : Nat) (n : Int) (hn : 1 ≤ n) (hn2 : n ≤ 1000000) (hP : P ≤ 1000000) (h : Rd w R P) :
    Calls Try.prog 59 #[.pointer (some ⟨R, 0, none⟩), .int .i64 n] w (OddPost R (P + 1) w) := by
  have hn0 : 0 < n := by omega
  go_enter Try.func59, Try.ntmps59
  go_wp2_with fail
  refine (pick_any _ R P _ hP h).mono ?_
  rintro e w2 ⟨v1, rfl, -, k1⟩
  go_wp2_with fail
  go_ret
  exact ⟨_, rfl, k1⟩

def DrawRel (w : World) (R P : Nat) (v : Value) (xs : List Int) (wr : World) : Prop := Rd wr R P ∧ IOwn wr (R + 1) v xs ∧ Below w.heap.size w wr ∧ w.heap.size ≤ R

theorem DrawRel.picked {w wr w' : World} {R P Q : Nat} {v : Value} {xs : List Int} (h : DrawRel w R P v xs wr) (k : Picked R Q wr w') : DrawRel w R Q v xs w' := by
  obtain ⟨h1, h2, h3, h4⟩ := h
  refine ⟨k.rd, h2.keep (SameAt.of_grown k.grown ?_), h3.trans (k.below h4 h1.lt), h4⟩
  rcases hv : v.ownBlock with _ | g
  · exact .inl rfl
  · refine .inr fun e => ?_
    have := (h2.ge g hv).1
    injection e with e
    omega

theorem DrawRel.append {w wr w' : World} {R P : Nat} {v v' : Value} {xs ys : List Int} (h : DrawRel w R P v xs wr) (ho : IOwn w' (R + 1) v' ys) (hg : wr.grownBy w' v.ownBlock) : DrawRel w R P v' ys w' := by
  obtain ⟨h1, h2, h3, h4⟩ := h
  have hr := h1.lt
  exact ⟨h1.grown hg (fun g hg' => by have := (h2.ge g hg').1; omega), ho, h3.grown hg (by omega) (fun g hg' => by have := (h2.ge g hg').1; omega), h4⟩

end Go.Proofs.Ytebebcomhdjihaa

namespace Go.Proofs.Ytebebcomhdjihaa
open Go.RowKit
set_option linter.unusedVariables false

end Go.Proofs.Ytebebcomhdjihaa

namespace Go.Proofs.Ytebebcomhdjihaa
open Go.RowKit
set_option linter.unusedVariables false

end Go.Proofs.Ytebebcomhdjihaa

namespace Go.Proofs.Ytebebcomhdjihaa
open Go.RowKit
set_option linter.unusedVariables false

end Go.Proofs.Ytebebcomhdjihaa

namespace Go.Proofs.Ytebebcomhdjihaa
open Go.RowKit
set_option linter.unusedVariables false

def RowOk (base : Nat) (xs : List Int) (b : Bool) (w : World) (e : Ending) (w' : World) : Prop := ∃ v, e = .returned (.tuple #[v, .bool b]) ∧ IOwn w' base v xs ∧ Below w.heap.size w w'

theorem rowOk_ret {base : Nat} {xs ys : List Int} {b c : Bool} {w w' : World} {v : Value} (h : b = c) (k : xs = ys) (o : IOwn w' base v ys) (hb : Below w.heap.size w w') : RowOk base xs b w (.returned (.tuple #[v, .bool c])) w' := by
  subst h; subst k; exact ⟨v, rfl, o, hb⟩

def FillRel (w : World) (zs : List Int) (n k : Nat) (wr : World) : Prop :=
  wr.ownsRow w.heap.size 3 1 (.slice (some ⟨w.heap.size, 0, none⟩) n n) n (copied zs k) ∧ Below w.heap.size w wr

theorem FillRel.step {w wr : World} {zs : List Int} {n k : Nat} {x : Int} (h : FillRel w zs n k wr) (hx : zs[k]? = some x) : FillRel w zs n (k + 1) (wr.setCell ⟨w.heap.size, k, none⟩ (.int .i64 x)) := by
  obtain ⟨h1, h2⟩ := h
  obtain ⟨h3, h4⟩ := h1.stored k (.int .i64 x)
  rw [copied_set hx] at h3
  exact ⟨h3, h2.setCell (Nat.le_refl _) _⟩

theorem FillRel.drew {w wr : World} {zs : List Int} {n k : Nat} (h : FillRel w zs n k wr) (q : Nat) : FillRel w zs n k (wr.drewN q) := ⟨h.1, below_drewN h.2 q⟩

theorem FillRel.all {w wr : World} {zs : List Int} {n k : Nat} (h : FillRel w zs n k wr) (hn : zs.length = n) (hk : k = n) : IOwn wr w.heap.size (.slice (some ⟨w.heap.size, 0, none⟩) n n) zs ∧ Below w.heap.size w wr := by
  subst hk
  subst hn
  obtain ⟨h1, h2⟩ := h
  rw [copied_all] at h1
  exact ⟨h1, h2⟩

end Go.Proofs.Ytebebcomhdjihaa

namespace Go.Proofs.Ytebebcomhdjihaa
open Go.RowKit
set_option linter.unusedVariables false

def AppRel (w : World) (zs : List Int) (k : Nat) (p : Value) (wr : World) : Prop := IOwn wr w.heap.size p (zs.take k) ∧ Below w.heap.size w wr

theorem AppRel.step {w wr w' : World} {zs : List Int} {k : Nat} {p p' : Value} {x : Int} (h : AppRel w zs k p wr) (hx : zs[k]? = some x) (ho : IOwn w' w.heap.size p' (zs.take k ++ [x])) (hg : wr.grownBy w' p.ownBlock) : AppRel w zs (k + 1) p' w' := by
  obtain ⟨h1, h2⟩ := h
  refine ⟨?_, below_grown h2 hg h1 (Nat.le_refl _) h2.size⟩
  rw [List.take_add_one, hx]; exact ho

theorem AppRel.all {w wr : World} {zs : List Int} {k : Nat} {p : Value} (h : AppRel w zs k p wr) (hk : zs.length ≤ k) : IOwn wr w.heap.size p zs ∧ Below w.heap.size w wr := by
  obtain ⟨h1, h2⟩ := h
  rw [List.take_of_length_le hk] at h1
  exact ⟨h1, h2⟩

theorem app_start (w : World) (zs : List Int) : AppRel w zs 0 (.slice (some ⟨w.heap.size, 0, none⟩) 0 0) (w.alloc (.cells #[] 3)) :=
  ⟨World.ownsRow_lit w #[] 0 (Nat.le_refl _) (by unfold maxLen; omega) rfl, (Below.refl _ _).alloc (Nat.le_refl _) _⟩

theorem AppRel.below {w wr : World} {zs : List Int} {k : Nat} {p : Value} (h : AppRel w zs k p wr) : Below w.heap.size w wr := h.2

end Go.Proofs.Ytebebcomhdjihaa

namespace Go.Proofs.Ytebebcomhdjihaa
open Go.RowKit
set_option linter.unusedVariables false

end Go.Proofs.Ytebebcomhdjihaa

namespace Go.Proofs.Ytebebcomhdjihaa
set_option linter.unusedVariables false

abbrev Qt := Int × Int

def qokB (w : Int) (q : Qt) : Bool := evB w q.1 && inB q.2 0 6

theorem qokB_iff (w : Int) (q : Qt) : qokB w q = true ↔ evB w q.1 = true ∧ 0 ≤ q.2 ∧ q.2 ≤ 6 := by simp [qokB, inB_iff]

def bokB (w : Int) (qs : List Qt) : Bool := wokB w && decide (qs.length ≤ 3) && qs.all (qokB w)

theorem bokB_iff (w : Int) (qs : List Qt) : bokB w qs = true ↔ (1 ≤ w ∧ w ≤ 4) ∧ qs.length ≤ 3 ∧ ∀ q ∈ qs, qokB w q = true := by
  simp only [bokB, Bool.and_eq_true, wokB_iff, decide_eq_true_eq, List.all_eq_true, and_assoc]

def stB (s : Int) : Bool := inB s (-9) 9

theorem stB_iff (s : Int) : stB s = true ↔ -9 ≤ s ∧ s ≤ 9 := inB_iff _ _ _

def bitI (e : Int) (k : Nat) : Int := e / 2 ^ k % 2

theorem bitI_01 (e : Int) (k : Nat) : bitI e k = 0 ∨ bitI e k = 1 := by unfold bitI; omega

end Go.Proofs.Ytebebcomhdjihaa

namespace Go.Proofs.Ytebebcomhdjihaa
open Go.RowKit
set_option linter.unusedVariables false

def qV (q : Qt) : Value := .agg #[.int .i64 q.1, .int .i64 q.2]

set_option maxHeartbeats 400000 in
theorem priceOk_any (x : Int) (W : World) :
    Calls Try.prog 97 #[.int .i64 x] W fun r W' => r = .returned (.bool (inB x 0 6)) ∧ W = W' := by
  by_cases h1 : 0 ≤ x
  · by_cases h2 : x ≤ 6
    · go_enter Try.func97, Try.ntmps97
      go_wp2
      go_ret
      exact ⟨ret_bool (by symm; simp [inB, h1, h2]), rfl⟩
    · have h3 : decide (x ≤ 6) = false := by simpa using h2
      go_enter Try.func97, Try.ntmps97
      go_wp2
      go_ret
      exact ⟨ret_bool (by symm; simp [inB, h1]; omega), rfl⟩
  · have h3 : decide (0 ≤ x) = false := by simpa using h1
    go_enter Try.func97, Try.ntmps97
    go_wp2
    go_ret
    exact ⟨ret_bool (by symm; simp [inB]; omega), rfl⟩

set_option maxHeartbeats 400000 in
theorem stakeOk_any (x : Int) (W : World) :
    Calls Try.prog 64 #[.int .i64 x] W fun r W' => r = .returned (.bool (stB x)) ∧ W = W' := by
  by_cases h1 : -9 ≤ x
  · by_cases h2 : x ≤ 9
    · go_enter Try.func64, Try.ntmps64
      go_wp2
      go_ret
      exact ⟨ret_bool (by symm; simp [stB, inB, h1, h2]), rfl⟩
    · have h3 : decide (x ≤ 9) = false := by simpa using h2
      go_enter Try.func64, Try.ntmps64
      go_wp2
      go_ret
      exact ⟨ret_bool (by symm; simp [stB, inB, h1]; omega), rfl⟩
  · have h3 : decide (-9 ≤ x) = false := by simpa using h1
    go_enter Try.func64, Try.ntmps64
    go_wp2
    go_ret
    exact ⟨ret_bool (by symm; simp [stB, inB]; omega), rfl⟩

theorem qok_mk {w e p : Int} {b c : Bool} (h : evB w e = b) (k : inB p 0 6 = c) : qokB w (e, p) = (b && c) := by rw [qokB, h, k]

def qBlk (q : Qt) : Obj := .cells #[.int .i64 q.1, .int .i64 q.2] 64

set_option maxHeartbeats 400000 in
theorem implQuoteOk_w (w : Int) (q : Qt) (W : World) :
    Calls Try.prog 88 #[.int .i64 w, qV q] W fun r W' => r = .returned (.bool (qokB w q)) ∧ W' = W.alloc (qBlk q) := by
  obtain ⟨e, p⟩ := q
  unfold qV
  rcases Bool.eq_false_or_eq_true (evB w e) with h | h
  all_goals
    go_enter Try.func88, Try.ntmps88
    go_wp2_with (first
        | (go_at_call 33; refine (implEventOk_any _ _ _).mono ?_; rintro e w' ⟨rfl, rfl⟩)
        | (go_at_call 97; refine (priceOk_any _ _).mono ?_; rintro e w' ⟨rfl, rfl⟩))
    go_ret
    exact ⟨ret_bool (by rw [qok_mk h rfl]; simp), rfl⟩

theorem implQuoteOk_any (w : Int) (q : Qt) (W : World) :
    Calls Try.prog 88 #[.int .i64 w, qV q] W fun r W' => r = .returned (.bool (qokB w q)) ∧ Below W.heap.size W W' := by
  refine (implQuoteOk_w w q W).mono ?_
  rintro e w' ⟨rfl, rfl⟩
  exact ⟨rfl, (Below.refl _ _).alloc (Nat.le_refl _) _⟩

set_option maxHeartbeats 400000 in
theorem specQuoteOk_w (w : Int) (q : Qt) (W : World) :
    Calls Try.prog 79 #[.int .i64 w, qV q] W fun r W' => r = .returned (.bool (qokB w q)) ∧ W' = W.alloc (qBlk q) := by
  obtain ⟨e, p⟩ := q
  unfold qV
  rcases Bool.eq_false_or_eq_true (evB w e) with h | h
  all_goals
    go_enter Try.func79, Try.ntmps79
    go_wp2_with (first
        | (go_at_call 92; refine (specEventOk_any _ _ _).mono ?_; rintro e w' ⟨rfl, rfl⟩)
        | (go_at_call 40; refine (l1In_any _ _ _ _).mono ?_; rintro e w' ⟨rfl, rfl⟩))
    go_ret
    exact ⟨ret_bool (by rw [qok_mk h rfl]; simp), rfl⟩

theorem specQuoteOk_any (w : Int) (q : Qt) (W : World) :
    Calls Try.prog 79 #[.int .i64 w, qV q] W fun r W' => r = .returned (.bool (qokB w q)) ∧ Below W.heap.size W W' := by
  refine (specQuoteOk_w w q W).mono ?_
  rintro e w' ⟨rfl, rfl⟩
  exact ⟨rfl, (Below.refl _ _).alloc (Nat.le_refl _) _⟩

theorem qok_true {w e p : Int} (h : qokB w (e, p) = true) : evB w e = true ∧ 0 ≤ p ∧ p ≤ 6 ∧ 1 ≤ w ∧ w ≤ 4 ∧ 0 ≤ e ∧ e ≤ 15 := by
  have h1 := (qokB_iff _ _).1 h
  have h2 := (evB_iff _ _).1 h1.1
  have h3 := evB_15 h1.1
  exact ⟨h1.1, h1.2.1, h1.2.2, h2.1, h2.2.1, h3.1, h3.2⟩

end Go.Proofs.Ytebebcomhdjihaa

namespace Go.Proofs.Ytebebcomhdjihaa
open Go.RowKit
set_option linter.unusedVariables false

theorem hasq_tab : ∀ e : Fin 16, ∀ a : Fin 4, (bits BinOp.and IntKind.i64 (((e : Nat) : Int) / 2 ^ (a : Nat)) 1 == 1) = (bitI ((e : Nat) : Int) (a : Nat) == 1) := by decide +kernel

set_option maxHeartbeats 1000000 in
theorem hasQ_any (e : Int) (a : Nat) (h0 : 0 ≤ e) (h1 : e ≤ 15) (ha : a < 4) (W : World) :
    Calls Try.prog 105 #[.int .i64 e, .int .i64 (a : Int)] W fun r W' => r = .returned (.bool (bitI e a == 1)) ∧ W = W' := by
  obtain ⟨k, rfl⟩ := fin16 h0 h1
  have ht := hasq_tab k ⟨a, ha⟩
  have H := Lib.hid ht
  clear ht
  obtain rfl | rfl | rfl | rfl : a = 0 ∨ a = 1 ∨ a = 2 ∨ a = 3 := by omega
  all_goals
    go_enter Try.func105, Try.ntmps105
    go_wp2
    go_ret
    exact ⟨ret_bool (by have := H.out; simpa using this), rfl⟩

theorem box_cells {W wr : World} {q : Qt} (h : Below (W.alloc (qBlk q)).heap.size (W.alloc (qBlk q)) wr) :
    wr.cell? ⟨W.heap.size, 0, none⟩ = some (.int .i64 q.1) ∧ wr.cell? ⟨W.heap.size, 1, none⟩ = some (.int .i64 q.2) := by
  have hb := h.block W.heap.size (by simp)
  have hn : (W.alloc (qBlk q)).heap[W.heap.size]? = some (qBlk q) := heap_alloc_new W _
  have hB : Blk wr W.heap.size 64 #[.int .i64 q.1, .int .i64 q.2] := hb.trans hn
  exact ⟨hB.cell 0, hB.cell 1⟩

end Go.Proofs.Ytebebcomhdjihaa

namespace Go.Proofs.Ytebebcomhdjihaa
open Go.RowKit
set_option linter.unusedVariables false

theorem AppRel.keep {w wr w' : World} {zs : List Int} {k : Nat} {p : Value} (h : AppRel w zs k p wr) (hb : Below wr.heap.size wr w') : AppRel w zs k p w' :=
  ⟨h.1.keep (SameAt.of_below hb), below_step h.2 hb h.2.size⟩

end Go.Proofs.Ytebebcomhdjihaa

namespace Go.Proofs.Ytebebcomhdjihaa
open Go.RowKit
set_option linter.unusedVariables false

section
variable {α : Type}

def GRd (c : Nat) (enc : α → List Value) (w : World) (v : Value) (xs : List α) : Prop :=
  ∃ A cp, v = .slice A xs.length cp ∧ xs.length ≤ cp ∧ cp ≤ 9223372036854775807 ∧
    (0 < xs.length → ∃ b off, A = some ⟨b, off, none⟩ ∧ b < w.heap.size ∧ ∀ i x, xs[i]? = some x → ∀ j u, (enc x)[j]? = some u → w.cell? ⟨b, off + i * c + j, none⟩ = some u)

def GOwn (e : TypeId) (c : Nat) (enc : α → List Value) (w : World) (base : Nat) (v : Value) (xs : List α) : Prop := w.ownsRow base e c v xs.length (xs.flatMap enc)

theorem GRd.keep {c : Nat} {enc : α → List Value} {w w' : World} {v : Value} {xs : List α} (h : GRd c enc w v xs) (hs : SameAt w w' v) : GRd c enc w' v xs := by
  obtain ⟨A, cp, rfl, hl, hm, hc⟩ := h
  refine ⟨A, cp, rfl, hl, hm, fun h0 => ?_⟩
  obtain ⟨b, off, rfl, hb, hcell⟩ := hc h0
  have := hs.1
  refine ⟨b, off, rfl, by omega, fun i x hx j u hu => (World.cell?_of_block (a := ⟨b, off + i * c + j, none⟩) ?_).trans (hcell i x hx j u hu)⟩
  exact hs.2 b rfl hb

theorem GOwn.keep {e : TypeId} {c : Nat} {enc : α → List Value} {w w' : World} {base : Nat} {v : Value} {xs : List α} (h : GOwn e c enc w base v xs) (hs : SameAt w w' v) : GOwn e c enc w' base v xs := by
  refine ⟨h.1, ?_⟩
  rcases h.2 with hn | ⟨g, cap, cur, rfl, hb, hg, rest⟩
  · exact .inl hn
  · exact .inr ⟨g, cap, cur, rfl, hb, (hs.2 g rfl (Array.getElem?_eq_some_iff.1 hg).1).trans hg, rest⟩

theorem flat_len {enc : α → List Value} {c : Nat} (he : ∀ x, (enc x).length = c) (xs : List α) : (xs.flatMap enc).length = xs.length * c := by
  induction xs with
  | nil => simp
  | cons x xs ih => simp only [List.flatMap_cons, List.length_append, List.length_cons, he, ih, Nat.add_mul]; omega

theorem flat_at {enc : α → List Value} {c : Nat} (he : ∀ x, (enc x).length = c) {xs : List α} {i : Nat} {x : α} (hx : xs[i]? = some x) {j : Nat} {u : Value} (hu : (enc x)[j]? = some u) : (xs.flatMap enc)[i * c + j]? = some u := by
  induction xs generalizing i with
  | nil => simp at hx
  | cons y ys ih =>
    rw [List.flatMap_cons]
    cases i with
    | zero =>
      simp at hx
      subst hx
      have hj : j < (enc y).length := (List.getElem?_eq_some_iff.1 hu).1
      rw [Nat.zero_mul, Nat.zero_add, List.getElem?_append_left hj]
      exact hu
    | succ i =>
      simp at hx
      rw [List.getElem?_append_right (by rw [he, Nat.add_mul]; omega), he]
      have := ih hx
      rw [show (i + 1) * c + j - c = i * c + j from by rw [Nat.add_mul]; omega]
      exact this

theorem GOwn.rd {e : TypeId} {c : Nat} {enc : α → List Value} {w : World} {base : Nat} {v : Value} {xs : List α} (he : ∀ x, (enc x).length = c) (h : GOwn e c enc w base v xs) : GRd c enc w v xs := by
  rcases h.2 with ⟨rfl, h0⟩ | ⟨g, cap, cur, rfl, hb, hg, hn, hm, hcs, ht⟩
  · exact ⟨none, 0, by rw [h0], by omega, by omega, fun hp => by omega⟩
  · refine ⟨_, cap, rfl, hn, hm, fun h0 => ⟨g, 0, rfl, (Array.getElem?_eq_some_iff.1 hg).1, fun i x hx j u hu => ?_⟩⟩
    have := h.cells (g := g) rfl (i * c + j) u (flat_at he hx hu)
    rw [addr_add] at this
    rw [← Nat.add_assoc] at this
    exact this

theorem GOwn.ge {e : TypeId} {c : Nat} {enc : α → List Value} {w : World} {base : Nat} {v : Value} {xs : List α} (h : GOwn e c enc w base v xs) : ∀ g, v.ownBlock = some g → base ≤ g ∧ g < w.heap.size := World.ownsRow.lt h

theorem GOwn.base {e : TypeId} {c : Nat} {enc : α → List Value} {w : World} {base base' : Nat} {v : Value} {xs : List α} (h : GOwn e c enc w base v xs) (hb : base' ≤ base) : GOwn e c enc w base' v xs := by
  refine ⟨h.1, ?_⟩
  rcases h.2 with hn | ⟨g, cap, cur, rfl, hb', rest⟩
  · exact .inl hn
  · exact .inr ⟨g, cap, cur, rfl, Nat.le_trans hb hb', rest⟩

theorem GRd.at_ {c : Nat} {enc : α → List Value} {w : World} {A : Option Addr} {n cp : Nat} {xs : List α} (h : GRd c enc w (.slice A n cp) xs) {k : Nat} (hk : k < n) :
    ∃ b off x, A = some ⟨b, off, none⟩ ∧ b < w.heap.size ∧ xs[k]? = some x ∧ ∀ j u, (enc x)[j]? = some u → w.cell? ⟨b, off + k * c + j, none⟩ = some u := by
  obtain ⟨A', cp', e, hl, hm, hc⟩ := h
  injection e with e1 e2 e3
  subst e1
  obtain ⟨b, off, hA, hb, hcell⟩ := hc (by omega)
  have hx : xs[k]? = some (xs[k]'(by omega)) := List.getElem?_eq_getElem (by omega)
  exact ⟨b, off, _, hA, hb, hx, hcell k _ hx⟩

theorem GRd.form {c : Nat} {enc : α → List Value} {w : World} {v : Value} {xs : List α} (h : GRd c enc w v xs) : ∃ A cp, v = .slice A xs.length cp ∧ xs.length ≤ cp ∧ cp ≤ 9223372036854775807 := by
  obtain ⟨A, cp, e, hl, hm, -⟩ := h
  exact ⟨A, cp, e, hl, hm⟩

theorem GRd.nil (c : Nat) (enc : α → List Value) (w : World) : GRd c enc w (.slice none 0 0) [] := ⟨none, 0, rfl, Nat.le_refl _, by omega, fun h => by simp at h⟩

theorem GOwn.nil (e : TypeId) (c : Nat) (enc : α → List Value) (w : World) (base : Nat) : GOwn e c enc w base (.slice none 0 0) ([] : List α) := by simpa [GOwn] using World.ownsRow_nil w base e c

theorem flat_set {enc : α → List Value} {c : Nat} (he : ∀ x, (enc x).length = c) {xs : List α} {k : Nat} (hk : k < xs.length) (x : α) (zs : List Value)
    (hlen : zs.length = (xs.flatMap enc).length) (hin : ∀ j, j < c → zs[k * c + j]? = (enc x)[j]?) (hout : ∀ i, (i < k * c ∨ k * c + c ≤ i) → zs[i]? = (xs.flatMap enc)[i]?) :
    zs = (xs.set k x).flatMap enc := by
  apply List.ext_getElem?
  intro i
  have hl : (xs.flatMap enc).length = xs.length * c := flat_len he xs
  by_cases hi : i < xs.length * c
  · have hc0 : 0 < c := by
      rcases Nat.eq_zero_or_pos c with h | h
      · subst h; omega
      · exact h
    have hdiv : i / c < xs.length := Nat.div_lt_of_lt_mul (by rw [Nat.mul_comm]; exact hi)
    have hmod : i % c < c := Nat.mod_lt _ hc0
    have hdm : i / c * c + i % c = i := by rw [Nat.mul_comm]; exact Nat.div_add_mod i c
    by_cases hik : i / c = k
    · subst hik
      have hx : (xs.set (i / c) x)[i / c]? = some x := by rw [List.getElem?_set_self hdiv]
      have hu : (enc x)[i % c]? = some ((enc x)[i % c]'(by rw [he]; exact hmod)) := List.getElem?_eq_getElem _
      have h1 := hin (i % c) hmod
      rw [hdm] at h1
      have h2 := flat_at he hx hu
      rw [hdm] at h2
      rw [h1, h2, hu]
    · have hx : (xs.set k x)[i / c]? = some (xs[i / c]'hdiv) := by rw [List.getElem?_set_ne (fun e => hik e.symm)]; exact List.getElem?_eq_getElem hdiv
      have hx0 : xs[i / c]? = some (xs[i / c]'hdiv) := List.getElem?_eq_getElem hdiv
      have hu : (enc (xs[i / c]'hdiv))[i % c]? = some ((enc (xs[i / c]'hdiv))[i % c]'(by rw [he]; exact hmod)) := List.getElem?_eq_getElem _
      have h2 := flat_at he hx hu
      have h3 := flat_at he hx0 hu
      rw [hdm] at h2 h3
      have hne : i < k * c ∨ k * c + c ≤ i := by
        rcases Nat.lt_or_gt_of_ne hik with h | h
        · left
          have : (i / c + 1) * c ≤ k * c := Nat.mul_le_mul_right c h
          rw [Nat.add_mul] at this
          omega
        · right
          have : (k + 1) * c ≤ i / c * c := Nat.mul_le_mul_right c h
          rw [Nat.add_mul] at this
          omega
      rw [hout i hne, h2, h3]
  · rw [List.getElem?_eq_none (by omega), List.getElem?_eq_none (by rw [flat_len he, List.length_set]; omega)]

theorem GOwn.set2 {e : TypeId} {enc : α → List Value} {w : World} {base g cp : Nat} {xs : List α} (he : ∀ x, (enc x).length = 2) (h : GOwn e 2 enc w base (.slice (some ⟨g, 0, none⟩) xs.length cp) xs) {k : Nat} (hk : k < xs.length) {x : α} {v0 v1 : Value} (hx : enc x = [v0, v1]) :
    GOwn e 2 enc ((w.setCell ⟨g, k * 2, none⟩ v0).setCell ⟨g, k * 2 + 1, none⟩ v1) base (.slice (some ⟨g, 0, none⟩) xs.length cp) (xs.set k x) ∧ w.grownBy ((w.setCell ⟨g, k * 2, none⟩ v0).setCell ⟨g, k * 2 + 1, none⟩ v1) (some g) := by
  unfold GOwn at h
  obtain ⟨h1, g1⟩ := h.stored (k * 2) v0
  obtain ⟨h2, g2⟩ := h1.stored (k * 2 + 1) v1
  refine ⟨?_, ⟨g2.os.trans g1.os, g2.tape.trans g1.tape, g2.output.trans g1.output, Nat.le_trans g1.size g2.size, fun i hi hne => (g2.block i (Nat.lt_of_lt_of_le hi g1.size) hne).trans (g1.block i hi hne)⟩⟩
  unfold GOwn
  have hl := flat_len he xs
  have key : ((xs.flatMap enc).set (k * 2) v0).set (k * 2 + 1) v1 = (xs.set k x).flatMap enc := by
    refine flat_set he hk x _ (by simp) (fun j hj => ?_) (fun i hi => ?_)
    · have : j = 0 ∨ j = 1 := by omega
      rcases this with rfl | rfl
      · rw [List.getElem?_set_ne (by omega), Nat.add_zero, List.getElem?_set_self (by omega), hx]; rfl
      · rw [List.getElem?_set_self (by rw [List.length_set]; omega), hx]; rfl
    · rw [List.getElem?_set_ne (by omega), List.getElem?_set_ne (by omega)]
  rw [List.length_set, ← key]
  exact h2

def upto (xs : List α) (z : α) (k : Nat) : List α := xs.take k ++ List.replicate (xs.length - k) z

theorem upto_zero (xs : List α) (z : α) : upto xs z 0 = List.replicate xs.length z := by simp [upto]

theorem upto_all (xs : List α) (z : α) : upto xs z xs.length = xs := by simp [upto]

def GFill (e : TypeId) (c : Nat) (enc : α → List Value) (z : α) (w : World) (xs : List α) (k : Nat) (wr : World) : Prop :=
  GOwn e c enc wr w.heap.size (.slice (some ⟨w.heap.size, 0, none⟩) xs.length xs.length) (upto xs z k) ∧ Below w.heap.size w wr

theorem GFill.all {e : TypeId} {c : Nat} {enc : α → List Value} {z : α} {w wr : World} {xs : List α} {k : Nat} (h : GFill e c enc z w xs k wr) (hk : k = xs.length) : GOwn e c enc wr w.heap.size (.slice (some ⟨w.heap.size, 0, none⟩) xs.length xs.length) xs ∧ Below w.heap.size w wr := by
  subst hk
  obtain ⟨h1, h2⟩ := h
  rw [upto_all] at h1
  exact ⟨h1, h2⟩

theorem GFill.keep {e : TypeId} {c : Nat} {enc : α → List Value} {z : α} {w wr w' : World} {xs : List α} {k : Nat} (h : GFill e c enc z w xs k wr) (hb : Below wr.heap.size wr w') : GFill e c enc z w xs k w' :=
  ⟨h.1.keep (SameAt.of_below hb), below_step h.2 hb h.2.size⟩

theorem GOwn.far {e : TypeId} {c : Nat} {enc : α → List Value} {w1 : World} {v u : Value} {base : Nat} {xs : List α} (o : GOwn e c enc w1 base v xs) (h : ∀ g, u.ownBlock = some g → g < base) : u.ownBlock = none ∨ u.ownBlock ≠ v.ownBlock := by
  rcases hu : u.ownBlock with _ | g
  · exact .inl rfl
  · refine .inr fun e => ?_
    have h1 := h g hu
    have h2 := (o.ge g e.symm).1
    omega

theorem flat_made {enc : α → List Value} {c : Nat} (he : ∀ x, (enc x).length = c) (hc : 0 < c) (z : α) (n : Nat) : (madeCells (enc z).toArray (n * c)).toList = (List.replicate n z).flatMap enc := by
  apply List.ext_getElem?
  intro i
  by_cases hi : i < n * c
  · have hdiv : i / c < n := Nat.div_lt_of_lt_mul (by rw [Nat.mul_comm]; exact hi)
    have hmod : i % c < c := Nat.mod_lt _ hc
    have hdm : i / c * c + i % c = i := by rw [Nat.mul_comm]; exact Nat.div_add_mod i c
    have hm : i % c < (enc z).length := by rw [he]; exact hmod
    have hx : (List.replicate n z)[i / c]? = some z := by simp [hdiv]
    have h2 := flat_at he hx (List.getElem?_eq_getElem hm)
    rw [hdm] at h2
    rw [h2]
    simp only [madeCells, Array.toList_map, Array.toList_range, List.getElem?_map, List.getElem?_range hi, Option.map_some, List.size_toArray, he]
    congr 1
    simp [List.getElem?_eq_getElem hm]
  · rw [List.getElem?_eq_none (by simp [size_madeCells]; omega), List.getElem?_eq_none (by rw [flat_len he, List.length_replicate]; omega)]

theorem GFill.start {e : TypeId} {c : Nat} {enc : α → List Value} (he : ∀ x, (enc x).length = c) (hc : 0 < c) (z : α) {w w0 : World} {xs : List α} {n : Nat} {zc : Array Value}
    (hown : w0.ownsRow w.heap.size e c (.slice (some ⟨w.heap.size, 0, none⟩) n n) n (madeCells zc (n * c)).toList) (hz : zc = (enc z).toArray) (hn : xs.length = n) (hg : w.grownBy w0 none) : GFill e c enc z w xs 0 w0 := by
  subst hz
  subst hn
  refine ⟨?_, (Below.refl _ _).grown hg (Nat.le_refl _) (fun k hk => by cases hk)⟩
  rw [upto_zero]
  unfold GOwn
  rw [List.length_replicate, ← flat_made he hc]
  exact hown

end

end Go.Proofs.Ytebebcomhdjihaa

namespace Go.Proofs.Ytebebcomhdjihaa
open Go.RowKit
set_option linter.unusedVariables false

def qC (q : Qt) : List Value := [.int .i64 q.1, .int .i64 q.2]

theorem qC_len (q : Qt) : (qC q).length = 2 := rfl

abbrev QRd (w : World) (v : Value) (qs : List Qt) : Prop := GRd 2 qC w v qs

abbrev QOwn (w : World) (base : Nat) (v : Value) (qs : List Qt) : Prop := GOwn 64 2 qC w base v qs

theorem QRd.at_ {w : World} {A : Option Addr} {n cp : Nat} {qs : List Qt} (h : QRd w (.slice A n cp) qs) {k : Nat} (hk : k < n) :
    ∃ b off q, A = some ⟨b, off, none⟩ ∧ b < w.heap.size ∧ qs[k]? = some q ∧ w.cell? ⟨b, off + k * 2, none⟩ = some (.int .i64 q.1) ∧ w.cell? ⟨b, off + k * 2 + 1, none⟩ = some (.int .i64 q.2) := by
  obtain ⟨b, off, q, hA, hb, hx, hc⟩ := GRd.at_ h hk
  exact ⟨b, off, q, hA, hb, hx, hc 0 _ rfl, hc 1 _ rfl⟩

theorem QRd.cell {w : World} {b off n c : Nat} {qs : List Qt} {k : Nat} {q : Qt} (h : QRd w (.slice (some ⟨b, off, none⟩) n c) qs) (hq : qs[k]? = some q) : w.cell? ⟨b, off + k * 2, none⟩ = some (.int .i64 q.1) ∧ w.cell? ⟨b, off + k * 2 + 1, none⟩ = some (.int .i64 q.2) := by
  have hk : k < qs.length := (List.getElem?_eq_some_iff.1 hq).1
  obtain ⟨A, cp, e, hl, hm, hc⟩ := h
  injection e with e1 e2 e3
  obtain ⟨b', off', hA, -, hcell⟩ := hc (by omega)
  rw [← e1] at hA
  injection hA with hA
  injection hA with hb ho
  subst hb
  subst ho
  exact ⟨hcell k q hq 0 _ rfl, hcell k q hq 1 _ rfl⟩

theorem IRd.cellk {w : World} {b off n c : Nat} {xs : List Int} {k : Nat} {x : Int} (h : IRd w (.slice (some ⟨b, off, none⟩) n c) xs) (hx : xs[k]? = some x) : w.cell? ⟨b, off + k, none⟩ = some (.int .i64 x) := by
  have hk : k < xs.length := (List.getElem?_eq_some_iff.1 hx).1
  obtain ⟨A, c, e, hl, hm, hc⟩ := h
  injection e with e1 e2 e3
  obtain ⟨b', off', hA, -, hcell⟩ := hc (by omega)
  rw [← e1] at hA
  injection hA with hA
  injection hA with hb ho
  subst hb
  subst ho
  exact hcell k x hx

theorem bokB_no {w : Int} {qs : List Qt} {k : Nat} {q : Qt} (hx : qs[k]? = some q) (h : qokB w q = false) : bokB w qs = false := by
  rw [← Bool.not_eq_true, bokB_iff]
  intro h2
  have := h2.2.2 q (List.mem_of_getElem? hx)
  rw [h] at this; cases this

theorem allq_take {w : Int} {qs : List Qt} {k : Nat} {q : Qt} (hx : qs[k]? = some q) (h : qokB w q = true) (ih : ∀ y ∈ qs.take k, qokB w y = true) : ∀ y ∈ qs.take (k + 1), qokB w y = true := by
  rw [List.take_add_one, hx]
  intro y hy
  rcases List.mem_append.1 hy with h1 | h1
  · exact ih y h1
  · simp at h1; subst h1; exact h

theorem bokB_all {w : Int} {qs : List Qt} {k : Nat} (hk : qs.length ≤ k) (ih : ∀ y ∈ qs.take k, qokB w y = true) : bokB w qs = (wokB w && decide (qs.length ≤ 3)) := by
  rw [List.take_of_length_le hk] at ih
  have : qs.all (qokB w) = true := List.all_eq_true.2 ih
  rw [bokB, this, Bool.and_true]

set_option maxHeartbeats 1000000 in
theorem implBookOk_any (w : World) (n : Int) (v : Value) (qs : List Qt) (hv : QRd w v qs) :
    Calls Try.prog 77 #[.int .i64 n, v] w fun r w' => r = .returned (.bool (bokB n qs)) ∧ Below w.heap.size w w' := by
  obtain ⟨A, c, rfl, hl, hm⟩ := hv.form
  have HV := Lib.hid hv
  clear hv
  rcases Bool.eq_false_or_eq_true (wokB n) with hw | hw
  · by_cases h3 : qs.length ≤ 3
    · have HW : Hid (bokB n qs = true ↔ ∀ y ∈ qs, qokB n y = true) := Lib.hid (by
        rw [bokB, hw, decide_eq_true h3, Bool.true_and, Bool.true_and, List.all_eq_true])
      have h3' : (qs.length : Int) ≤ 3 := by omega
      go_enter Try.func77, Try.ntmps77
      go_wp2_with fail
      refine (worldsOk_any n _).mono ?_
      rintro r w' ⟨rfl, rfl⟩
      rw [hw]
      go_wp2_with fail
      go_loopw [17] (fun i wr => ∃ k : Nat, i = .int .i64 k ∧ k ≤ qs.length ∧ Hid (∀ y ∈ qs.take k, qokB n y = true) ∧ Hid (Below w.heap.size w wr)) (fun i _ => qs.length - (intOf i).toNat)
      case atStart => exact ⟨0, rfl, Nat.zero_le _, Lib.hid (by simp), Lib.hid (Below.refl _ _)⟩
      case round =>
        obtain ⟨k, rfl, hk, HA, HB⟩ := hrel
        by_cases hlt : k < qs.length
        · obtain ⟨b, off, q, rfl, -, hx, hc0, hc1⟩ := QRd.at_ (HV.out.keep (SameAt.of_below HB.out)) hlt
          have HX := Lib.hid hx
          clear hx
          rcases Bool.eq_false_or_eq_true (qokB n q) with hq | hq
          · have HQ := Lib.hid hq
            go_wp2_with fail
            refine (implQuoteOk_any n q _).mono ?_
            rintro r w2 ⟨rfl, b2⟩
            rw [hq]
            have HB2 : Hid (Below w.heap.size w w2) := Lib.hid (below_step (HB.out.alloc HB.out.size _) b2 (by simp; have := HB.out.size; omega))
            clear b2 hc0 hc1
            go_wp2_with fail
            go_roundw
            case rel => exact ⟨k + 1, by go_num, by omega, Lib.hid (allq_take HX.out HQ.out HA.out), HB2⟩
            case measure => simp [intOf]; omega
          · have HQ := Lib.hid hq
            go_wp2_with fail
            refine (implQuoteOk_any n q _).mono ?_
            rintro r w2 ⟨rfl, b2⟩
            rw [hq]
            have HB2 : Hid (Below w.heap.size w w2) := Lib.hid (below_step (HB.out.alloc HB.out.size _) b2 (by simp; have := HB.out.size; omega))
            clear b2 hc0 hc1
            go_wp2_with fail
            go_ret
            exact ⟨ret_bool (bokB_no HX.out HQ.out).symm, HB2.out⟩
        · go_wp2_with fail
          go_ret
          exact ⟨ret_bool (HW.out.2 (by have := HA.out; rwa [List.take_of_length_le (by omega)] at this)).symm, HB.out⟩
    · have h3' : (3 : Int) < (qs.length : Int) := by omega
      have HN : Hid (bokB n qs = false) := Lib.hid (by rw [bokB, decide_eq_false h3]; simp)
      go_enter Try.func77, Try.ntmps77
      go_wp2_with fail
      refine (worldsOk_any n _).mono ?_
      rintro r w' ⟨rfl, rfl⟩
      rw [hw]
      go_wp2_with fail
      go_ret
      exact ⟨ret_bool HN.out.symm, Below.refl _ _⟩
  · have HN : Hid (bokB n qs = false) := Lib.hid (by rw [bokB, hw]; rfl)
    go_enter Try.func77, Try.ntmps77
    go_wp2_with fail
    refine (worldsOk_any n _).mono ?_
    rintro r w' ⟨rfl, rfl⟩
    rw [hw]
    go_wp2_with fail
    go_ret
    exact ⟨ret_bool HN.out.symm, Below.refl _ _⟩

theorem inB_wok (n : Int) : inB n 1 4 = wokB n := bool_eq (by rw [inB_iff, wokB_iff])

set_option maxHeartbeats 1000000 in
theorem specBookOk_any (w : World) (n : Int) (v : Value) (qs : List Qt) (hv : QRd w v qs) :
    Calls Try.prog 66 #[.int .i64 n, v] w fun r w' => r = .returned (.bool (bokB n qs)) ∧ Below w.heap.size w w' := by
  obtain ⟨A, c, rfl, hl, hm⟩ := hv.form
  have HV := Lib.hid hv
  clear hv
  go_enter Try.func66, Try.ntmps66
  go_wp2_with fail
  go_loopw [5] (fun i wr => ∃ k : Nat, i = .int .i64 k ∧ k ≤ qs.length ∧ Hid (∀ y ∈ qs.take k, qokB n y = true) ∧ Hid (Below w.heap.size w wr)) (fun i _ => qs.length - (intOf i).toNat)
  case atStart => exact ⟨0, rfl, Nat.zero_le _, Lib.hid (by simp), Lib.hid (Below.refl _ _)⟩
  case round =>
    obtain ⟨k, rfl, hk, HA, HB⟩ := hrel
    by_cases hlt : k < qs.length
    · obtain ⟨b, off, q, rfl, -, hx, hc0, hc1⟩ := QRd.at_ (HV.out.keep (SameAt.of_below HB.out)) hlt
      have HX := Lib.hid hx
      clear hx
      rcases Bool.eq_false_or_eq_true (qokB n q) with hq | hq
      · have HQ := Lib.hid hq
        go_wp2_with fail
        refine (specQuoteOk_any n q _).mono ?_
        rintro r w2 ⟨rfl, b2⟩
        rw [hq]
        have HB2 : Hid (Below w.heap.size w w2) := Lib.hid (below_step HB.out b2 HB.out.size)
        clear b2 hc0 hc1
        go_wp2_with fail
        go_roundw
        case rel => exact ⟨k + 1, by go_num, by omega, Lib.hid (allq_take HX.out HQ.out HA.out), HB2⟩
        case measure => simp [intOf]; omega
      · have HQ := Lib.hid hq
        go_wp2_with fail
        refine (specQuoteOk_any n q _).mono ?_
        rintro r w2 ⟨rfl, b2⟩
        rw [hq]
        have HB2 : Hid (Below w.heap.size w w2) := Lib.hid (below_step HB.out b2 HB.out.size)
        clear b2 hc0 hc1
        go_wp2_with fail
        go_ret
        exact ⟨ret_bool (bokB_no HX.out HQ.out).symm, HB2.out⟩
    · have HN := Lib.hid (bokB_all (w := n) (qs := qs) (k := k) (by omega) HA.out)
      rcases Bool.eq_false_or_eq_true (wokB n) with hw | hw
      · by_cases h3 : qs.length ≤ 3
        · have h3' : (qs.length : Int) ≤ 3 := by omega
          go_wp2_with fail
          refine (l1In_any n _ _ _).mono ?_
          rintro r w' ⟨rfl, rfl⟩
          rw [inB_wok, hw]
          go_wp2_with fail
          go_ret
          exact ⟨ret_bool (by rw [HN.out, hw, decide_eq_true h3]; rfl), HB.out⟩
        · have h3' : (3 : Int) < (qs.length : Int) := by omega
          go_wp2_with fail
          refine (l1In_any n _ _ _).mono ?_
          rintro r w' ⟨rfl, rfl⟩
          rw [inB_wok, hw]
          go_wp2_with fail
          go_ret
          exact ⟨ret_bool (by rw [HN.out, hw, decide_eq_false h3]; simp; omega), HB.out⟩
      · go_wp2_with fail
        refine (l1In_any n _ _ _).mono ?_
        rintro r w' ⟨rfl, rfl⟩
        rw [inB_wok, hw]
        go_wp2_with fail
        go_ret
        exact ⟨ret_bool (by rw [HN.out, hw]; rfl), HB.out⟩

end Go.Proofs.Ytebebcomhdjihaa
