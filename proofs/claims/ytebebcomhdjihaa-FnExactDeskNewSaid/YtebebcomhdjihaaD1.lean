/- Contracts, facts and walks that the laws of this seat lean on, laid together by a program of ours (mkmerge.py) out of: Ev2 Ints Rd2 Row Kit Gf Qm Qc Qd Mw. Conditions: stated at each. -/
import Derived.Test.YtebebcomhdjihaaRows
import Derived.WalkKit
import Derived.WalkSpells
import Derived.WalkLawsBesides
import Derived.Lib.Hide
import Derived.Below
import Derived.Laws.OwnMore
import Derived.Deep.Draws
import Derived.Laws.Rows
import Derived.Deep.QuietTactic
import Derived.BigQuiet
import Derived.IntWalk
import Derived.LoopTactic
import Derived.BigRegion
import Derived.Deep.AppendLies
import Derived.Deep.RegionLaw
import Derived.Handy
namespace Go.Proofs.Ytebebcomhdjihaa
open Go.RowKit

def wokB (w : Int) : Bool := decide (1 ≤ w) && decide (w ≤ 4)

def allI (w : Int) : Int := 2 ^ w.toNat - 1

def evB (w e : Int) : Bool := decide (1 ≤ w) && decide (w ≤ 4) && decide (0 ≤ e) && decide (e ≤ allI w)

theorem wokB_iff (w : Int) : wokB w = true ↔ 1 ≤ w ∧ w ≤ 4 := by simp [wokB]

theorem evB_iff (w e : Int) : evB w e = true ↔ 1 ≤ w ∧ w ≤ 4 ∧ 0 ≤ e ∧ e ≤ allI w := by simp [evB, and_assoc]

theorem wcases {w : Int} (h1 : 1 ≤ w) (h2 : w ≤ 4) : w = 1 ∨ w = 2 ∨ w = 3 ∨ w = 4 := by omega

set_option maxHeartbeats 400000 in
theorem worldsOk_any (w : Int) (W : World) :
    Calls Try.prog 60 #[.int .i64 w] W fun e W' => e = .returned (.bool (wokB w)) ∧ W = W' := by
  by_cases h1 : 1 ≤ w
  · by_cases h2 : w ≤ 4
    · go_enter Try.func60, Try.ntmps60
      go_wp2
      go_ret
      exact ⟨by simp [wokB, h1, h2], rfl⟩
    · have h3 : decide (w ≤ 4) = false := by simpa using h2
      go_enter Try.func60, Try.ntmps60
      go_wp2
      go_ret
      exact ⟨by rw [wokB, h3]; simp, rfl⟩
  · have h3 : decide (1 ≤ w) = false := by simpa using h1
    go_enter Try.func60, Try.ntmps60
    go_wp2
    go_ret
    exact ⟨by rw [wokB, h3]; simp, rfl⟩

set_option maxHeartbeats 400000 in
theorem allWorlds_any (w : Int) (h1 : 1 ≤ w) (h2 : w ≤ 4) (W : World) :
    Calls Try.prog 61 #[.int .i64 w] W fun e W' => e = .returned (.int .i64 (allI w)) ∧ W = W' := by
  obtain rfl | rfl | rfl | rfl := wcases h1 h2
  all_goals
    go_enter Try.func61, Try.ntmps61
    go_wp2
    go_ret
    exact ⟨rfl, rfl⟩

set_option maxHeartbeats 400000 in
theorem implEventOk_any (w e : Int) (W : World) :
    Calls Try.prog 33 #[.int .i64 w, .int .i64 e] W fun r W' => r = .returned (.bool (evB w e)) ∧ W = W' := by
  by_cases hw : wokB w = true
  · have hw' := (wokB_iff w).1 hw
    by_cases h1 : 0 ≤ e
    · go_enter Try.func33, Try.ntmps33
      go_wp2_with (first
        | (go_at_call 60; refine (worldsOk_any _ _).mono ?_; rintro e w' ⟨rfl, rfl⟩)
        | (go_at_call 61; refine (allWorlds_any _ hw'.1 hw'.2 _).mono ?_; rintro e w' ⟨rfl, rfl⟩))
      go_ret
      exact ⟨by simp [evB, h1, hw'], rfl⟩
    · have h3 : decide (0 ≤ e) = false := by simpa using h1
      go_enter Try.func33, Try.ntmps33
      go_wp2_with (go_at_call 60; refine (worldsOk_any _ _).mono ?_; rintro e w' ⟨rfl, rfl⟩)
      go_ret
      exact ⟨by rw [evB, h3]; simp, rfl⟩
  · have h3 : wokB w = false := by simpa using hw
    go_enter Try.func33, Try.ntmps33
    go_wp2_with (go_at_call 60; refine (worldsOk_any _ _).mono ?_; rintro e w' ⟨rfl, rfl⟩)
    go_ret
    exact ⟨by rw [evB]; rw [wokB] at h3; rw [h3]; simp, rfl⟩

def inB (n lo hi : Int) : Bool := decide (lo ≤ n ∧ n ≤ hi)

theorem inB_iff (n lo hi : Int) : inB n lo hi = true ↔ lo ≤ n ∧ n ≤ hi := by simp [inB]

theorem ret_bool {a b : Bool} (h : a = b) : Ending.returned (.bool a) = .returned (.bool b) := by rw [h]

theorem ret_int {k : IntKind} {a b : Int} (h : a = b) : Ending.returned (.int k a) = .returned (.int k b) := by rw [h]

theorem bool_eq {a b : Bool} (h : a = true ↔ b = true) : a = b := by rw [Bool.eq_iff_iff]; exact h

set_option maxHeartbeats 400000 in
theorem l1In_any (n lo hi : Int) (W : World) :
    Calls Try.prog 40 #[.int .i64 n, .int .i64 lo, .int .i64 hi] W fun r W' => r = .returned (.bool (inB n lo hi)) ∧ W = W' := by
  by_cases h1 : lo ≤ n
  · by_cases h2 : n ≤ hi
    · go_enter Try.func40, Try.ntmps40
      go_wp2
      go_ret
      exact ⟨ret_bool (by simp [inB, h1, h2]), rfl⟩
    · have h3 : decide (n ≤ hi) = false := by simpa using h2
      go_enter Try.func40, Try.ntmps40
      go_wp2
      go_ret
      exact ⟨ret_bool (by simp only [inB]; symm; simpa [h1] using h2), rfl⟩
  · have h3 : decide (lo ≤ n) = false := by simpa using h1
    go_enter Try.func40, Try.ntmps40
    go_wp2
    go_ret
    exact ⟨ret_bool (by simp only [inB]; symm; simp; omega), rfl⟩

set_option maxHeartbeats 400000 in
theorem specEventOk_any (w e : Int) (W : World) :
    Calls Try.prog 92 #[.int .i64 w, .int .i64 e] W fun r W' => r = .returned (.bool (evB w e)) ∧ W = W' := by
  by_cases hw : 1 ≤ w ∧ w ≤ 4
  · obtain ⟨h1, h2⟩ := hw
    have hi : inB w 1 4 = true := (inB_iff _ _ _).2 ⟨h1, h2⟩
    obtain rfl | rfl | rfl | rfl := wcases h1 h2
    all_goals
      go_enter Try.func92, Try.ntmps92
      go_wp2_with (go_at_call 40; refine (l1In_any _ _ _ _).mono ?_; rintro e w' ⟨rfl, rfl⟩)
      go_ret
      exact ⟨ret_bool (bool_eq (by rw [inB_iff, evB_iff]; simp [allI])), rfl⟩
  · have h3 : inB w 1 4 = false := by simp only [inB]; simpa using hw
    go_enter Try.func92, Try.ntmps92
    go_wp2_with (go_at_call 40; refine (l1In_any _ _ _ _).mono ?_; rintro e w' ⟨rfl, rfl⟩)
    go_ret
    exact ⟨ret_bool (by symm; rw [← Bool.not_eq_true, evB_iff]; omega), rfl⟩

end Go.Proofs.Ytebebcomhdjihaa

namespace Go.Proofs.Ytebebcomhdjihaa
open Go.RowKit
set_option linter.unusedVariables false

theorem allI_le {w : Int} (h1 : 1 ≤ w) (h2 : w ≤ 4) : 1 ≤ allI w ∧ allI w ≤ 15 := by
  obtain rfl | rfl | rfl | rfl := wcases h1 h2 <;> decide

theorem evB_15 {w e : Int} (h : evB w e = true) : 0 ≤ e ∧ e ≤ 15 := by
  have h' := (evB_iff w e).1 h
  have := allI_le h'.1 h'.2.1
  omega

theorem fin16 {e : Int} (h1 : 0 ≤ e) (h2 : e ≤ 15) : ∃ k : Fin 16, e = ((k : Nat) : Int) := ⟨⟨e.toNat, by omega⟩, by simp; omega⟩

end Go.Proofs.Ytebebcomhdjihaa

namespace Go.Proofs.Ytebebcomhdjihaa
open Go.RowKit
set_option linter.unusedVariables false

theorem maxLen_is : maxLen = 9223372036854775807 := rfl

def IRd (w : World) (v : Value) (xs : List Int) : Prop :=
  ∃ A c, v = .slice A xs.length c ∧ xs.length ≤ c ∧ c ≤ 9223372036854775807 ∧
    (0 < xs.length → ∃ b off, A = some ⟨b, off, none⟩ ∧ b < w.heap.size ∧ ∀ i x, xs[i]? = some x → w.cell? ⟨b, off + i, none⟩ = some (.int .i64 x))

def IOwn (w : World) (base : Nat) (v : Value) (xs : List Int) : Prop := w.ownsRow base 3 1 v xs.length (xs.map (Value.int .i64))

def SameAt (w w' : World) (v : Value) : Prop := w.heap.size ≤ w'.heap.size ∧ ∀ g, v.ownBlock = some g → g < w.heap.size → w'.heap[g]? = w.heap[g]?

theorem SameAt.of_below {w w' : World} {v : Value} (h : Below w.heap.size w w') : SameAt w w' v := ⟨h.size, fun g _ hg => h.block g hg⟩

theorem SameAt.of_grown {w w' : World} {v : Value} {row : Option Nat} (h : w.grownBy w' row) (hne : v.ownBlock = none ∨ v.ownBlock ≠ row) : SameAt w w' v :=
  ⟨h.size, fun g hg hlt => h.block g hlt (by
    rcases hne with h0 | h0
    · rw [h0] at hg; cases hg
    · rw [← hg]; exact h0)⟩

theorem SameAt.of_lt {B : Nat} {w w' : World} {v : Value} (h : Below B w w') (hv : ∀ g, v.ownBlock = some g → g < B) : SameAt w w' v :=
  ⟨h.size, fun g hg _ => h.block g (hv g hg)⟩

theorem IRd.keep {w w' : World} {v : Value} {xs : List Int} (h : IRd w v xs) (hs : SameAt w w' v) : IRd w' v xs := by
  obtain ⟨A, c, rfl, hl, hm, hc⟩ := h
  refine ⟨A, c, rfl, hl, hm, fun h0 => ?_⟩
  obtain ⟨b, off, rfl, hb, hcell⟩ := hc h0
  have := hs.1
  refine ⟨b, off, rfl, by omega, fun i x hx => (World.cell?_of_block (a := ⟨b, off + i, none⟩) ?_).trans (hcell i x hx)⟩
  exact hs.2 b rfl hb

theorem IOwn.keep {w w' : World} {base : Nat} {v : Value} {xs : List Int} (h : IOwn w base v xs) (hs : SameAt w w' v) : IOwn w' base v xs := by
  refine ⟨h.1, ?_⟩
  rcases h.2 with hn | ⟨g, cap, cur, rfl, hb, hg, rest⟩
  · exact .inl hn
  · exact .inr ⟨g, cap, cur, rfl, hb, (hs.2 g rfl (Array.getElem?_eq_some_iff.1 hg).1).trans hg, rest⟩

theorem IOwn.rd {w : World} {base : Nat} {v : Value} {xs : List Int} (h : IOwn w base v xs) : IRd w v xs := by
  rcases h.2 with ⟨rfl, h0⟩ | ⟨g, cap, cur, rfl, hb, hg, hn, hm, hcs, ht⟩
  · exact ⟨none, 0, by rw [h0], by omega, by omega, fun hp => by omega⟩
  · refine ⟨_, cap, rfl, hn, hm, fun h0 => ⟨g, 0, rfl, (Array.getElem?_eq_some_iff.1 hg).1, fun i x hx => ?_⟩⟩
    have := h.cells (g := g) rfl i (.int .i64 x) (by simp [List.getElem?_map, hx])
    unfold Addr.add at this
    split at this
    · next hi => subst hi; simpa using this
    · simpa using this

theorem IOwn.ge {w : World} {base : Nat} {v : Value} {xs : List Int} (h : IOwn w base v xs) : ∀ g, v.ownBlock = some g → base ≤ g ∧ g < w.heap.size := World.ownsRow.lt h

theorem IOwn.base {w : World} {base base' : Nat} {v : Value} {xs : List Int} (h : IOwn w base v xs) (hb : base' ≤ base) : IOwn w base' v xs := by
  refine ⟨h.1, ?_⟩
  rcases h.2 with hn | ⟨g, cap, cur, rfl, hb', rest⟩
  · exact .inl hn
  · exact .inr ⟨g, cap, cur, rfl, by omega, rest⟩

theorem IOwn.ne {w : World} {b1 b2 : Nat} {v u : Value} {xs ys : List Int} (h : IOwn w b1 v xs) (k : IRd w u ys) (hk : ∀ g, u.ownBlock = some g → g < b1) : v.ownBlock = none ∨ u.ownBlock = none ∨ v.ownBlock ≠ u.ownBlock := by
  rcases hv : v.ownBlock with _ | g
  · exact .inl rfl
  · rcases hu : u.ownBlock with _ | g'
    · exact .inr (.inl rfl)
    · refine .inr (.inr fun e => ?_)
      have := (h.ge g hv).1
      have := hk g' hu
      injection e with e
      omega

theorem IRd.at_ {w : World} {A : Option Addr} {n c : Nat} {xs : List Int} (h : IRd w (.slice A n c) xs) {k : Nat} (hk : k < n) :
    ∃ b off x, A = some ⟨b, off, none⟩ ∧ b < w.heap.size ∧ xs[k]? = some x ∧ w.cell? ⟨b, off + k, none⟩ = some (.int .i64 x) := by
  obtain ⟨A', c', e, hl, hm, hc⟩ := h
  injection e with e1 e2 e3
  subst e1
  obtain ⟨b, off, hA, hb, hcell⟩ := hc (by omega)
  have hx : xs[k]? = some (xs[k]'(by omega)) := List.getElem?_eq_getElem (by omega)
  exact ⟨b, off, _, hA, hb, hx, hcell k _ hx⟩

def agree (xs ys : List Int) (k : Nat) : Prop := ∀ i, i < k → xs[i]? = ys[i]?

theorem agree_all {xs ys : List Int} (hl : xs.length = ys.length) (h : agree xs ys xs.length) : xs = ys := by
  apply List.ext_getElem?
  intro i
  by_cases hi : i < xs.length
  · exact h i hi
  · rw [List.getElem?_eq_none (by omega), List.getElem?_eq_none (by omega)]

theorem agree_succ {xs ys : List Int} {k : Nat} (h : agree xs ys k) (hk : xs[k]? = ys[k]?) : agree xs ys (k + 1) := by
  intro i hi
  rcases Nat.lt_succ_iff_lt_or_eq.1 hi with h1 | h1
  · exact h i h1
  · subst h1; exact hk

def EqPost (xs ys : List Int) (w : World) (e : Ending) (w' : World) : Prop := ∃ n, e = .returned (.bool (decide (xs = ys))) ∧ w' = w.drewN n

set_option maxHeartbeats 1000000 in
theorem eqIntS_any (w : World) (v u : Value) (xs ys : List Int) (hv : IRd w v xs) (hu : IRd w u ys) :
    Calls Try.prog 47 #[v, u] w (EqPost xs ys w) := by
  obtain ⟨A, c, rfl, hl, hm, hc⟩ := id hv
  obtain ⟨A', c', rfl, hl', hm', hc'⟩ := id hu
  clear hc hc'
  have HV := Lib.hid hv
  have HU := Lib.hid hu
  clear hv hu
  by_cases hlen : xs.length = ys.length
  · have h1 : ((xs.length : Int) == (ys.length : Int)) = true := by simp; omega
    have h2 : ((xs.length : Int) != (ys.length : Int)) = false := by simp; omega
    have HL := Lib.hid hlen
    clear hlen
    go_enter Try.func47, Try.ntmps47
    go_wp2
    clear h1 h2
    go_loopw [5] (fun i wr => ∃ k n : Nat, i = .int .i64 k ∧ k ≤ xs.length ∧ Hid (agree xs ys k) ∧ wr = w.drewN n) (fun i _ => xs.length - (intOf i).toNat)
    case atStart => exact ⟨0, 0, rfl, Nat.zero_le _, fun i hi => absurd hi (Nat.not_lt_zero _), rfl⟩
    case round =>
      obtain ⟨k, n, rfl, hk, HA, rfl⟩ := hrel
      by_cases hlt : k < xs.length
      · obtain ⟨b, off, x, rfl, -, hx, hcx⟩ := HV.out.at_ hlt
        obtain ⟨b', off', y, rfl, -, hy, hcy⟩ := HU.out.at_ (k := k) (by have := HL.out; omega)
        have hlt' : k < ys.length := by have := HL.out; omega
        have HX := Lib.hid hx
        have HY := Lib.hid hy
        clear hx hy
        by_cases hxy : x = y
        · subst hxy
          go_wp2_with fail
          go_quiet (fail)
          go_wp2_with fail
          go_roundw
          case rel => exact ⟨k + 1, _, by go_num, by omega, agree_succ HA.out (HX.out.trans HY.out.symm), rfl⟩
          case measure => simp [intOf]; omega
        · have hne : (x != y) = true := by simpa using hxy
          have HXY := Lib.hid hxy
          clear hxy
          go_wp2_with fail
          go_quiet (fail)
          go_wp2_with fail
          go_ret
          exact ⟨_, ret_bool (by symm; simp only [decide_eq_false_iff_not]; intro e; subst e; exact HXY.out (Option.some.inj (HX.out.symm.trans HY.out))), by first | rfl | exact World.drewN_drewN _ _ _⟩
      · go_wp2_with fail
        go_ret
        exact ⟨n, ret_bool (by symm; simp only [decide_eq_true_eq]; exact agree_all HL.out (by have := HA.out; rwa [show k = xs.length from by omega] at this)), rfl⟩
  · have h1 : ((xs.length : Int) == (ys.length : Int)) = false := by simp; omega
    have h2 : ((xs.length : Int) != (ys.length : Int)) = true := by simp; omega
    have HL := Lib.hid hlen
    clear hlen
    go_enter Try.func47, Try.ntmps47
    go_wp2
    go_ret
    exact ⟨0, ret_bool (by symm; simp only [decide_eq_false_iff_not]; intro e; exact HL.out (by rw [e])), rfl⟩

theorem some_cell {w : World} {base g n cap : Nat} {e : TypeId} {xs : List Value} (h : w.ownsRow base e 1 (.slice (some ⟨g, 0, none⟩) n cap) n xs) {k : Nat} (hk : k < n) : ∃ u, w.cell? ⟨g, k, none⟩ = some u := by
  rw [h.cellAt k (by omega)]
  exact ⟨_, List.getElem?_eq_getElem (by rw [h.1]; omega)⟩

theorem Try_intinfo : (Try.prog.info? 3).map (fun i => (i.zero, i.size, i.bytes)) = some (some (.int .i64 0), 1, 8) := by kernel_rfl

def copied (xs : List Int) (k : Nat) : List Value := (xs.take k).map (Value.int .i64) ++ List.replicate (xs.length - k) (.int .i64 0)

theorem copied_set {xs : List Int} {k : Nat} {x : Int} (h : xs[k]? = some x) : (copied xs k).set k (.int .i64 x) = copied xs (k + 1) := by
  have hk : k < xs.length := by
    rcases Nat.lt_or_ge k xs.length with h1 | h1
    · exact h1
    · rw [List.getElem?_eq_none h1] at h; cases h
  have hx : xs[k] = x := by rw [List.getElem?_eq_getElem hk] at h; exact Option.some.inj h
  unfold copied
  have hlen : ((xs.take k).map (Value.int .i64)).length = k := by simp; omega
  rw [List.set_append_right _ _ (by omega), hlen, Nat.sub_self]
  obtain ⟨m, hm⟩ : ∃ m, xs.length - k = m + 1 := ⟨xs.length - k - 1, by omega⟩
  rw [hm, show xs.length - (k + 1) = m from by omega, List.replicate_succ, List.set_cons_zero, List.take_succ_eq_append_getElem hk, List.map_append, hx]
  simp

theorem copied_all (xs : List Int) : copied xs xs.length = xs.map (Value.int .i64) := by simp [copied]

theorem copied_zero (xs : List Int) : copied xs 0 = List.replicate xs.length (.int .i64 0) := by simp [copied]

def NewInts (xs : List Int) (w : World) (e : Ending) (w' : World) : Prop := ∃ v, e = .returned v ∧ IOwn w' w.heap.size v xs ∧ Below w.heap.size w w'

def CopyRel (w : World) (xs : List Int) (k : Nat) (wr : World) : Prop :=
  wr.ownsRow w.heap.size 3 1 (.slice (some ⟨w.heap.size, 0, none⟩) xs.length xs.length) xs.length (copied xs k) ∧ Below w.heap.size w wr

theorem CopyRel.step {w wr : World} {xs : List Int} {k : Nat} {x : Int} (h : CopyRel w xs k wr) (hx : xs[k]? = some x) : CopyRel w xs (k + 1) (wr.setCell ⟨w.heap.size, k, none⟩ (.int .i64 x)) := by
  obtain ⟨h1, h2⟩ := h
  obtain ⟨h3, h4⟩ := h1.stored k (.int .i64 x)
  rw [copied_set hx] at h3
  exact ⟨h3, h2.setCell (Nat.le_refl _) _⟩

set_option maxHeartbeats 1000000 in
theorem toIntS_any (w : World) (v : Value) (xs : List Int) (hv : IRd w v xs) (hn : xs.length ≤ 1048576) :
    Calls Try.prog 45 #[v] w (NewInts xs w) := by
  obtain ⟨A, c, rfl, hl, hm, hc⟩ := id hv
  clear hc
  have HV := Lib.hid hv
  clear hv
  obtain ⟨i0, hi, hz0, hz1, hz2⟩ := info_parts Try_intinfo
  go_enter Try.func45, Try.ntmps45
  go_wp2_with (at_make; refine wpList_make_full _ rfl _ _ 24 rfl w.heap.size 3 i0 (.int .i64 0) 1 Try.underlying24 hi hz0 hz1 .i64 .i64 _ _ xs.length rfl rfl rfl rfl ?b2 ?b3 (Nat.le_refl _) ?_)
  case b2 => rw [hz2]; omega
  case b3 => unfold maxLen; omega
  intro w0 hown0 hgrow0
  have H0 : Hid (CopyRel w xs 0 w0) := Lib.hid ⟨by rw [copied_zero]; simpa [toList_madeCells_one, Value.cells] using hown0, (Below.refl _ _).grown hgrow0 (Nat.le_refl _) (fun k hk => by cases hk)⟩
  clear hown0 hgrow0 hi hz0 hz1 hz2
  go_wp2_with fail
  go_loopw [4] (fun i wr => ∃ k : Nat, i = .int .i64 k ∧ k ≤ xs.length ∧ Hid (CopyRel w xs k wr)) (fun i _ => xs.length - (intOf i).toNat)
  case atStart => exact ⟨0, rfl, Nat.zero_le _, H0⟩
  case round =>
    obtain ⟨k, rfl, hk, H⟩ := hrel
    clear H0
    by_cases hlt : k < xs.length
    · obtain ⟨b, off, x, rfl, -, hx, hcx⟩ := (HV.out.keep (SameAt.of_below H.out.2)).at_ hlt
      have hfz := H.out.1.frozenAt k
      obtain ⟨old, hold⟩ := some_cell H.out.1 (k := k) (by omega)
      have HX := Lib.hid hx
      clear hx
      go_wp2_with fail
      go_roundw
      case rel => exact ⟨k + 1, by go_num, by omega, (show Hid _ from H.out.step HX.out)⟩
      case measure => simp [intOf]; omega
    · go_wp2_with fail
      go_ret
      obtain ⟨h1, h2⟩ := H.out
      rw [show k = xs.length from by omega, copied_all] at h1
      exact ⟨_, rfl, h1, h2⟩

def upFrom (k : Int) : Nat → List Int
  | 0 => []
  | n + 1 => k :: upFrom (k + 1) n

theorem upFrom_len (k : Int) (n : Nat) : (upFrom k n).length = n := by
  induction n generalizing k with
  | zero => rfl
  | succ n ih => simp [upFrom, ih]

theorem upFrom_get (k : Int) (n i : Nat) (h : i < n) : (upFrom k n)[i]? = some (k + i) := by
  induction n generalizing k i with
  | zero => omega
  | succ n ih =>
    cases i with
    | zero => simp [upFrom]
    | succ i => simp only [upFrom, List.getElem?_cons_succ]; rw [ih (k + 1) i (by omega)]; congr 1; omega

def marked (q : Int) (xs : List Int) (k : Nat) : List Value := (upFrom q k).map (Value.int .i64) ++ (xs.drop k).map (Value.int .i64)

theorem upFrom_succ (q : Int) (k : Nat) : upFrom q (k + 1) = upFrom q k ++ [q + k] := by
  induction k generalizing q with
  | zero => simp [upFrom]
  | succ k ih => rw [upFrom, ih (q + 1)]; simp [upFrom]; omega

theorem marked_set (q : Int) (xs : List Int) (k : Nat) (hk : k < xs.length) : (marked q xs k).set k (.int .i64 (q + k)) = marked q xs (k + 1) := by
  unfold marked
  have hlen : ((upFrom q k).map (Value.int .i64)).length = k := by simp [upFrom_len]
  rw [List.set_append_right _ _ (by omega), hlen, Nat.sub_self, upFrom_succ, List.drop_eq_getElem_cons hk, List.map_cons, List.set_cons_zero, List.map_append]
  simp

theorem marked_all (q : Int) (xs : List Int) : marked q xs xs.length = (upFrom q xs.length).map (Value.int .i64) := by simp [marked]

def Marked (base : Nat) (q : Int) (v : Value) (n : Nat) (w : World) (e : Ending) (w' : World) : Prop :=
  e = .returned (.int .i64 (q + n)) ∧ IOwn w' base v (upFrom q n) ∧ w.grownBy w' v.ownBlock ∧ w'.heap.size = w.heap.size

def MarkRel (w : World) (base : Nat) (q : Int) (v : Value) (xs : List Int) (k : Nat) (wr : World) : Prop :=
  wr.ownsRow base 3 1 v xs.length (marked q xs k) ∧ w.grownBy wr v.ownBlock ∧ wr.heap.size = w.heap.size

theorem MarkRel.step {w wr : World} {base g cap : Nat} {q : Int} {xs : List Int} {k : Nat} (h : MarkRel w base q (.slice (some ⟨g, 0, none⟩) xs.length cap) xs k wr) (hk : k < xs.length) :
    MarkRel w base q (.slice (some ⟨g, 0, none⟩) xs.length cap) xs (k + 1) (wr.setCell ⟨g, k, none⟩ (.int .i64 (q + k))) := by
  obtain ⟨h1, h2, h5⟩ := h
  obtain ⟨h3, h4⟩ := h1.stored k (.int .i64 (q + k))
  rw [marked_set q xs k hk] at h3
  exact ⟨h3, ⟨h4.os.trans h2.os, h4.tape.trans h2.tape, h4.output.trans h2.output, Nat.le_trans h2.size h4.size, fun i hi hne => (h4.block i (by omega) hne).trans (h2.block i hi hne)⟩, by simpa using h5⟩

set_option maxHeartbeats 1000000 in
theorem markIntS_any (w : World) (base : Nat) (q : Int) (v : Value) (xs : List Int) (hv : IOwn w base v xs) (hn : xs.length ≤ 1048576) (hq0 : 0 ≤ q) (hq : q ≤ 1000000000) :
    Calls Try.prog 52 #[v, .int .i64 q] w (Marked base q v xs.length w) := by
  have H0 : Hid (MarkRel w base q v xs 0 w) := Lib.hid ⟨by have h := hv; unfold IOwn at h; simpa [marked, upFrom] using h, World.grownBy.refl _ _, rfl⟩
  rcases hv.2 with ⟨rfl, h0⟩ | ⟨g, cap, cur, rfl, -, -, hcap, hcm, -, -⟩
  · have hx : xs = [] := List.eq_nil_of_length_eq_zero h0
    subst hx
    clear hv h0
    go_enter Try.func52, Try.ntmps52
    go_wp2_with fail
    refine wp_loop_rounds 1 ?_
    rw [rounds_succ]
    go_wp2_with fail
    go_ret
    exact ⟨ret_int (by simp), by simpa [upFrom, IOwn] using World.ownsRow_nil w base _ 1, World.grownBy.refl _ _, rfl⟩
  · clear hv
    go_enter Try.func52, Try.ntmps52
    go_wp2_with fail
    go_loopw [1, 5] (fun c i wr => ∃ k : Nat, i = .int .i64 k ∧ c = .int .i64 (q + k) ∧ k ≤ xs.length ∧ Hid (MarkRel w base q (.slice (some ⟨g, 0, none⟩) xs.length cap) xs k wr)) (fun _ i _ => xs.length - (intOf i).toNat)
    case atStart => exact ⟨0, rfl, by simp, Nat.zero_le _, H0⟩
    case round =>
      obtain ⟨k, rfl, rfl, hk, H⟩ := hrel
      clear H0
      by_cases hlt : k < xs.length
      · have hfz := H.out.1.frozenAt k
        obtain ⟨old, hold⟩ := some_cell H.out.1 (k := k) (by omega)
        go_wp2_with fail
        go_roundw
        case rel => exact ⟨k + 1, by go_num, by go_num, by omega, (show Hid _ from H.out.step hlt)⟩
        case measure => simp [intOf]; omega
      · go_wp2_with fail
        go_ret
        obtain ⟨h1, h2, h3⟩ := H.out
        have hk' : k = xs.length := by omega
        subst hk'
        rw [marked_all] at h1
        exact ⟨rfl, by simpa [IOwn, upFrom_len] using h1, h2, h3⟩

def HeldPost (q : Int) (n : Nat) (w : World) (e : Ending) (w' : World) : Prop := e = .returned (.int .i64 (q + n)) ∧ w = w'

set_option maxHeartbeats 1000000 in
theorem heldIntS_any (w : World) (q : Int) (v : Value) (n : Nat) (hv : IRd w v (upFrom q n)) (hn : n ≤ 1048576) (hq0 : 0 ≤ q) (hq : q ≤ 1000000000) :
    Calls Try.prog 71 #[v, .int .i64 q] w (HeldPost q n w) := by
  obtain ⟨A, c, rfl, hl, hm, hc⟩ := id hv
  rw [upFrom_len] at hv hl hc ⊢
  clear hc
  have HV := Lib.hid hv
  clear hv
  go_enter Try.func71, Try.ntmps71
  go_wp2_with fail
  go_loop [1, 5] (fun c i => ∃ k : Nat, i = .int .i64 k ∧ c = .int .i64 (q + k) ∧ k ≤ n) (fun _ i => n - (intOf i).toNat)
  case atStart => exact ⟨0, rfl, by simp, Nat.zero_le _⟩
  case round =>
    obtain ⟨k, rfl, rfl, hk⟩ := hrel
    by_cases hlt : k < n
    · obtain ⟨b, off, x, rfl, -, hx, hcx⟩ := HV.out.at_ hlt
      rw [upFrom_get q n k hlt] at hx
      obtain rfl := Option.some.inj hx
      clear hx
      go_wp2_with fail
      go_round
      case rel => exact ⟨k + 1, by go_num, by go_num, by omega⟩
      case measure => simp [intOf]; omega
    · go_wp2_with fail
      go_ret
      exact ⟨ret_int (by omega), rfl⟩

end Go.Proofs.Ytebebcomhdjihaa

namespace Go.Proofs.Ytebebcomhdjihaa
open Go.RowKit
set_option linter.unusedVariables false

def Blk (w : World) (g : Nat) (t : TypeId) (cs : Array Value) : Prop := w.heap[g]? = some (.cells cs t (0, 0))

theorem Blk.lt {w : World} {g : Nat} {t : TypeId} {cs : Array Value} (h : Blk w g t cs) : g < w.heap.size := by
  rcases Nat.lt_or_ge g w.heap.size with hlt | hge
  · exact hlt
  · unfold Blk at h; rw [Array.getElem?_eq_none hge] at h; cases h

theorem Blk.cell {w : World} {g : Nat} {t : TypeId} {cs : Array Value} (h : Blk w g t cs) (i : Nat) : w.cell? ⟨g, i, none⟩ = cs[i]? := cell_of_row w g i cs t (0, 0) h

theorem Blk.frozen {w : World} {g : Nat} {t : TypeId} {cs : Array Value} (h : Blk w g t cs) (i : Nat) : w.frozen? ⟨g, i, none⟩ = false := by
  unfold Blk at h
  simp [World.frozen?, h]

theorem Blk.set_ {w : World} {g : Nat} {t : TypeId} {cs : Array Value} (h : Blk w g t cs) (i : Nat) (u : Value) : Blk (w.setCell ⟨g, i, none⟩ u) g t (cs.setIfInBounds i u) := by
  unfold Blk at h ⊢
  simp [World.setCell, Array.getElem?_modify, h]

def Byts (w : World) (R : Nat) (A : Option Addr) (n : Nat) : Prop :=
  n ≤ 2000 ∧ (0 < n → ∃ b off, A = some ⟨b, off, none⟩ ∧ b < R ∧ b < w.heap.size ∧ ∀ i, i < n → ∃ v : Nat, v ≤ 255 ∧ w.cell? ⟨b, off + i, none⟩ = some (.int .u8 (v : Int)))

def Rd (w : World) (R P : Nat) : Prop := ∃ A n cap, ∃ p : Nat, Blk w R 83 #[.slice A n cap, .int .i64 (p : Int)] ∧ p ≤ P ∧ Byts w R A n

structure Picked (R P : Nat) (w w' : World) : Prop where
  grown : w.grownBy w' (some R)
  size : w'.heap.size = w.heap.size
  rd : Rd w' R P

end Go.Proofs.Ytebebcomhdjihaa

namespace Go.Proofs.Ytebebcomhdjihaa
open Go.RowKit
set_option linter.unusedVariables false

def IsRowC (k : IntKind) (w : World) (a : Option Addr) (len cap : Nat) (zs : List Int) : Prop :=
  (a = none ∧ len = 0 ∧ cap = 0 ∧ zs = []) ∨
  ∃ x, a = some x ∧ len ≤ cap ∧ cap ≤ maxLen ∧ zs.length = cap ∧ (∀ i, i < zs.length → w.cell? (x.add i) = some (.int k (zs.getD i 0))) ∧ ∀ n ∈ zs, (Lit.int k n).wf = true

theorem addr_add (b off i : Nat) : (⟨b, off, none⟩ : Addr).add i = ⟨b, off + i, none⟩ := by
  unfold Addr.add; split
  · next h => rw [h]; rfl
  · rfl

theorem Byts.more {w w' : World} {R : Nat} {A : Option Addr} {n : Nat} (h : Byts w R A n) (hs : w.heap.size ≤ w'.heap.size) (hb : ∀ b, b < w.heap.size → b < R → w'.heap[b]? = w.heap[b]?) : Byts w' R A n := by
  refine ⟨h.1, fun hn => ?_⟩
  obtain ⟨b, off, e, hR, hl, hc⟩ := h.2 hn
  refine ⟨b, off, e, hR, by omega, fun i hi => ?_⟩
  obtain ⟨v, hv, hcell⟩ := hc i hi
  exact ⟨v, hv, (World.cell?_of_block (a := ⟨b, off + i, none⟩) (hb b hl hR)).trans hcell⟩

theorem Blk.more {w w' : World} {g : Nat} {t : TypeId} {cs : Array Value} (h : Blk w g t cs) (hb : w'.heap[g]? = w.heap[g]?) : Blk w' g t cs := hb.trans h

theorem Rd.keep {w w' : World} {R P : Nat} (h : Rd w R P) (hs : w.heap.size ≤ w'.heap.size) (hb : ∀ b, b < w.heap.size → w'.heap[b]? = w.heap[b]?) : Rd w' R P := by
  obtain ⟨A, n, cap, p, hB, hp, hy⟩ := h
  exact ⟨A, n, cap, p, hB.more (hb R hB.lt), hp, hy.more hs fun b hl _ => hb b hl⟩

theorem Rd.grown {w w' : World} {R P : Nat} {row : Option Nat} (h : Rd w R P) (hg : w.grownBy w' row) (hr : ∀ g, row = some g → R < g) : Rd w' R P := by
  obtain ⟨A, n, cap, p, hB, hp, hy⟩ := h
  exact ⟨A, n, cap, p, hB.more (hg.block R hB.lt (fun e => by have := hr R e.symm; omega)), hp, hy.more hg.size fun b hl hlt => hg.block b hl (fun e => by have := hr b e.symm; omega)⟩

theorem Rd.lt {w : World} {R P : Nat} (h : Rd w R P) : R < w.heap.size := by
  obtain ⟨A, n, cap, p, hB, hp, hy⟩ := h
  exact hB.lt

theorem Rd.mono {w : World} {R P Q : Nat} (h : Rd w R P) (hPQ : P ≤ Q) : Rd w R Q := by
  obtain ⟨A, n, cap, p, hB, hp, hy⟩ := h
  exact ⟨A, n, cap, p, hB, by omega, hy⟩

theorem Picked.below {R P B : Nat} {w w' : World} (h : Picked R P w w') (hB : B ≤ R) (hR : R < w.heap.size) : Below B w w' :=
  ⟨h.grown.os, h.grown.tape, h.grown.output, h.grown.size, fun k hk => h.grown.block k (by omega) (fun e => by injection e with e; omega)⟩

theorem Picked.trans {R P Q : Nat} {w w1 w2 : World} (h : Picked R P w w1) (k : Picked R Q w1 w2) : Picked R Q w w2 :=
  ⟨⟨k.grown.os.trans h.grown.os, k.grown.tape.trans h.grown.tape, k.grown.output.trans h.grown.output, Nat.le_trans h.grown.size k.grown.size,
    fun i hi hne => (k.grown.block i (by have := h.size; omega) hne).trans (h.grown.block i hi hne)⟩, k.size.trans h.size, k.rd⟩

end Go.Proofs.Ytebebcomhdjihaa

namespace Go.Proofs.Ytebebcomhdjihaa
open Go.RowKit
set_option linter.unusedVariables false

theorem ird_of_row {w : World} {a : Option Addr} {len cap : Nat} {zs : List Int} (h : IsRowC .i64 w a len cap zs) : ∃ xs, IRd w (.slice a len cap) xs := by
  rcases h with ⟨rfl, rfl, rfl, rfl⟩ | ⟨x, rfl, hl, hm, hz, hcell, hwz⟩
  · exact ⟨[], none, 0, rfl, by simp, by omega, fun h => by simp at h⟩
  · have hlen : (zs.take len).length = len := by simp; omega
    rw [maxLen_is] at hm
    refine ⟨zs.take len, some x, cap, by rw [hlen], by omega, hm, fun h0 => ?_⟩
    rw [hlen] at h0
    obtain ⟨b, off, spot⟩ := x
    have hc := hcell 0 (by omega)
    have hspot : spot = none := by simpa [Addr.add] using World.cell?_spot hc
    subst hspot
    have hlt := World.block_lt_of_cell? w _ hc
    rw [addr_add] at hlt
    refine ⟨b, off, rfl, hlt, fun i y hy => ?_⟩
    have hi : i < len := by
      rcases Nat.lt_or_ge i len with h1 | h1
      · exact h1
      · rw [List.getElem?_eq_none (by omega)] at hy; cases hy
    have := hcell i (by omega)
    rw [addr_add] at this
    rw [List.getElem?_take, if_pos hi] at hy
    rw [this]
    simp [hy]

end Go.Proofs.Ytebebcomhdjihaa

namespace Go.Proofs.Ytebebcomhdjihaa
open Go.RowKit
set_option linter.unusedVariables false

theorem SameAt.grow {w w' : World} {v : Value} {o : Obj} (h : w' = w.alloc o) : SameAt w w' v := by
  subst h
  exact ⟨by simp, fun g _ hg => Below.heap_alloc w o g hg⟩

theorem one_new (w : World) (x : Value) (t : TypeId) : ∀ j u, [x][j]? = some u → (w.alloc (.cells #[x] t)).cell? ((⟨w.heap.size, 0, none⟩ : Addr).add j) = some u := by
  intro j u hu
  rcases j with _ | j
  · simp at hu; subst hu; simp [Addr.add]
  · simp at hu

theorem nil_own (w : World) (base : Nat) : IOwn w base (.slice none 0 0) [] := by simpa [IOwn] using World.ownsRow_nil w base 3 1

theorem below_drewN {B : Nat} {w w' : World} (h : Below B w w') (q : Nat) : Below B w (w'.drewN q) := ⟨h.os, h.tape, h.output, h.size, h.block⟩

theorem below_step {B : Nat} {w w1 w2 : World} (h : Below B w w1) (k : Below w1.heap.size w1 w2) (hB : B ≤ w1.heap.size) : Below B w w2 := h.trans (k.mono hB)

theorem below_grown {B : Nat} {w w1 w2 : World} {v : Value} {base : Nat} {xs : List Int} (h : Below B w w1) (k : w1.grownBy w2 v.ownBlock) (o : IOwn w1 base v xs) (hb : B ≤ base) (hB : B ≤ w1.heap.size) : Below B w w2 :=
  h.grown k hB (fun g hg => by have := (o.ge g hg).1; omega)

def DrawRel (w : World) (R P : Nat) (v : Value) (xs : List Int) (wr : World) : Prop := Rd wr R P ∧ IOwn wr (R + 1) v xs ∧ Below w.heap.size w wr ∧ w.heap.size ≤ R

theorem DrawRel.append {w wr w' : World} {R P : Nat} {v v' : Value} {xs ys : List Int} (h : DrawRel w R P v xs wr) (ho : IOwn w' (R + 1) v' ys) (hg : wr.grownBy w' v.ownBlock) : DrawRel w R P v' ys w' := by
  obtain ⟨h1, h2, h3, h4⟩ := h
  have hr := h1.lt
  exact ⟨h1.grown hg (fun g hg' => by have := (h2.ge g hg').1; omega), ho, h3.grown hg (by omega) (fun g hg' => by have := (h2.ge g hg').1; omega), h4⟩

end Go.Proofs.Ytebebcomhdjihaa

namespace Go.Proofs.Ytebebcomhdjihaa
open Go.RowKit
set_option linter.unusedVariables false

end Go.Proofs.Ytebebcomhdjihaa

namespace Go.Proofs.Ytebebcomhdjihaa
open Go.RowKit
set_option linter.unusedVariables false

end Go.Proofs.Ytebebcomhdjihaa

namespace Go.Proofs.Ytebebcomhdjihaa
open Go.RowKit
set_option linter.unusedVariables false

end Go.Proofs.Ytebebcomhdjihaa

namespace Go.Proofs.Ytebebcomhdjihaa
open Go.RowKit
set_option linter.unusedVariables false

def RowOk (base : Nat) (xs : List Int) (b : Bool) (w : World) (e : Ending) (w' : World) : Prop := ∃ v, e = .returned (.tuple #[v, .bool b]) ∧ IOwn w' base v xs ∧ Below w.heap.size w w'

theorem rowOk_ret {base : Nat} {xs ys : List Int} {b c : Bool} {w w' : World} {v : Value} (h : b = c) (k : xs = ys) (o : IOwn w' base v ys) (hb : Below w.heap.size w w') : RowOk base xs b w (.returned (.tuple #[v, .bool c])) w' := by
  subst h; subst k; exact ⟨v, rfl, o, hb⟩

def FillRel (w : World) (zs : List Int) (n k : Nat) (wr : World) : Prop :=
  wr.ownsRow w.heap.size 3 1 (.slice (some ⟨w.heap.size, 0, none⟩) n n) n (copied zs k) ∧ Below w.heap.size w wr

theorem FillRel.step {w wr : World} {zs : List Int} {n k : Nat} {x : Int} (h : FillRel w zs n k wr) (hx : zs[k]? = some x) : FillRel w zs n (k + 1) (wr.setCell ⟨w.heap.size, k, none⟩ (.int .i64 x)) := by
  obtain ⟨h1, h2⟩ := h
  obtain ⟨h3, h4⟩ := h1.stored k (.int .i64 x)
  rw [copied_set hx] at h3
  exact ⟨h3, h2.setCell (Nat.le_refl _) _⟩

theorem FillRel.drew {w wr : World} {zs : List Int} {n k : Nat} (h : FillRel w zs n k wr) (q : Nat) : FillRel w zs n k (wr.drewN q) := ⟨h.1, below_drewN h.2 q⟩

theorem FillRel.all {w wr : World} {zs : List Int} {n k : Nat} (h : FillRel w zs n k wr) (hn : zs.length = n) (hk : k = n) : IOwn wr w.heap.size (.slice (some ⟨w.heap.size, 0, none⟩) n n) zs ∧ Below w.heap.size w wr := by
  subst hk
  subst hn
  obtain ⟨h1, h2⟩ := h
  rw [copied_all] at h1
  exact ⟨h1, h2⟩

end Go.Proofs.Ytebebcomhdjihaa

namespace Go.Proofs.Ytebebcomhdjihaa
open Go.RowKit
set_option linter.unusedVariables false

def AppRel (w : World) (zs : List Int) (k : Nat) (p : Value) (wr : World) : Prop := IOwn wr w.heap.size p (zs.take k) ∧ Below w.heap.size w wr

theorem AppRel.step {w wr w' : World} {zs : List Int} {k : Nat} {p p' : Value} {x : Int} (h : AppRel w zs k p wr) (hx : zs[k]? = some x) (ho : IOwn w' w.heap.size p' (zs.take k ++ [x])) (hg : wr.grownBy w' p.ownBlock) : AppRel w zs (k + 1) p' w' := by
  obtain ⟨h1, h2⟩ := h
  refine ⟨?_, below_grown h2 hg h1 (Nat.le_refl _) h2.size⟩
  rw [List.take_add_one, hx]; exact ho

theorem AppRel.all {w wr : World} {zs : List Int} {k : Nat} {p : Value} (h : AppRel w zs k p wr) (hk : zs.length ≤ k) : IOwn wr w.heap.size p zs ∧ Below w.heap.size w wr := by
  obtain ⟨h1, h2⟩ := h
  rw [List.take_of_length_le hk] at h1
  exact ⟨h1, h2⟩

theorem AppRel.below {w wr : World} {zs : List Int} {k : Nat} {p : Value} (h : AppRel w zs k p wr) : Below w.heap.size w wr := h.2

end Go.Proofs.Ytebebcomhdjihaa

namespace Go.Proofs.Ytebebcomhdjihaa
open Go.RowKit
set_option linter.unusedVariables false

end Go.Proofs.Ytebebcomhdjihaa

namespace Go.Proofs.Ytebebcomhdjihaa
set_option linter.unusedVariables false

abbrev Qt := Int × Int

def qokB (w : Int) (q : Qt) : Bool := evB w q.1 && inB q.2 0 6

theorem qokB_iff (w : Int) (q : Qt) : qokB w q = true ↔ evB w q.1 = true ∧ 0 ≤ q.2 ∧ q.2 ≤ 6 := by simp [qokB, inB_iff]

def bokB (w : Int) (qs : List Qt) : Bool := wokB w && decide (qs.length ≤ 3) && qs.all (qokB w)

theorem bokB_iff (w : Int) (qs : List Qt) : bokB w qs = true ↔ (1 ≤ w ∧ w ≤ 4) ∧ qs.length ≤ 3 ∧ ∀ q ∈ qs, qokB w q = true := by
  simp only [bokB, Bool.and_eq_true, wokB_iff, decide_eq_true_eq, List.all_eq_true, and_assoc]

def stB (s : Int) : Bool := inB s (-9) 9

theorem stB_iff (s : Int) : stB s = true ↔ -9 ≤ s ∧ s ≤ 9 := inB_iff _ _ _

def bitI (e : Int) (k : Nat) : Int := e / 2 ^ k % 2

theorem bitI_01 (e : Int) (k : Nat) : bitI e k = 0 ∨ bitI e k = 1 := by unfold bitI; omega

end Go.Proofs.Ytebebcomhdjihaa

namespace Go.Proofs.Ytebebcomhdjihaa
open Go.RowKit
set_option linter.unusedVariables false

def qV (q : Qt) : Value := .agg #[.int .i64 q.1, .int .i64 q.2]

set_option maxHeartbeats 400000 in
theorem priceOk_any (x : Int) (W : World) :
    Calls Try.prog 97 #[.int .i64 x] W fun r W' => r = .returned (.bool (inB x 0 6)) ∧ W = W' := by
  by_cases h1 : 0 ≤ x
  · by_cases h2 : x ≤ 6
    · go_enter Try.func97, Try.ntmps97
      go_wp2
      go_ret
      exact ⟨ret_bool (by symm; simp [inB, h1, h2]), rfl⟩
    · have h3 : decide (x ≤ 6) = false := by simpa using h2
      go_enter Try.func97, Try.ntmps97
      go_wp2
      go_ret
      exact ⟨ret_bool (by symm; simp [inB, h1]; omega), rfl⟩
  · have h3 : decide (0 ≤ x) = false := by simpa using h1
    go_enter Try.func97, Try.ntmps97
    go_wp2
    go_ret
    exact ⟨ret_bool (by symm; simp [inB]; omega), rfl⟩

set_option maxHeartbeats 400000 in
theorem stakeOk_any (x : Int) (W : World) :
    Calls Try.prog 64 #[.int .i64 x] W fun r W' => r = .returned (.bool (stB x)) ∧ W = W' := by
  by_cases h1 : -9 ≤ x
  · by_cases h2 : x ≤ 9
    · go_enter Try.func64, Try.ntmps64
      go_wp2
      go_ret
      exact ⟨ret_bool (by symm; simp [stB, inB, h1, h2]), rfl⟩
    · have h3 : decide (x ≤ 9) = false := by simpa using h2
      go_enter Try.func64, Try.ntmps64
      go_wp2
      go_ret
      exact ⟨ret_bool (by symm; simp [stB, inB, h1]; omega), rfl⟩
  · have h3 : decide (-9 ≤ x) = false := by simpa using h1
    go_enter Try.func64, Try.ntmps64
    go_wp2
    go_ret
    exact ⟨ret_bool (by symm; simp [stB, inB]; omega), rfl⟩

theorem qok_mk {w e p : Int} {b c : Bool} (h : evB w e = b) (k : inB p 0 6 = c) : qokB w (e, p) = (b && c) := by rw [qokB, h, k]

def qBlk (q : Qt) : Obj := .cells #[.int .i64 q.1, .int .i64 q.2] 64

set_option maxHeartbeats 400000 in
theorem implQuoteOk_w (w : Int) (q : Qt) (W : World) :
    Calls Try.prog 88 #[.int .i64 w, qV q] W fun r W' => r = .returned (.bool (qokB w q)) ∧ W' = W.alloc (qBlk q) := by
  obtain ⟨e, p⟩ := q
  unfold qV
  rcases Bool.eq_false_or_eq_true (evB w e) with h | h
  all_goals
    go_enter Try.func88, Try.ntmps88
    go_wp2_with (first
        | (go_at_call 33; refine (implEventOk_any _ _ _).mono ?_; rintro e w' ⟨rfl, rfl⟩)
        | (go_at_call 97; refine (priceOk_any _ _).mono ?_; rintro e w' ⟨rfl, rfl⟩))
    go_ret
    exact ⟨ret_bool (by rw [qok_mk h rfl]; simp), rfl⟩

theorem implQuoteOk_any (w : Int) (q : Qt) (W : World) :
    Calls Try.prog 88 #[.int .i64 w, qV q] W fun r W' => r = .returned (.bool (qokB w q)) ∧ Below W.heap.size W W' := by
  refine (implQuoteOk_w w q W).mono ?_
  rintro e w' ⟨rfl, rfl⟩
  exact ⟨rfl, (Below.refl _ _).alloc (Nat.le_refl _) _⟩

set_option maxHeartbeats 400000 in
theorem specQuoteOk_w (w : Int) (q : Qt) (W : World) :
    Calls Try.prog 79 #[.int .i64 w, qV q] W fun r W' => r = .returned (.bool (qokB w q)) ∧ W' = W.alloc (qBlk q) := by
  obtain ⟨e, p⟩ := q
  unfold qV
  rcases Bool.eq_false_or_eq_true (evB w e) with h | h
  all_goals
    go_enter Try.func79, Try.ntmps79
    go_wp2_with (first
        | (go_at_call 92; refine (specEventOk_any _ _ _).mono ?_; rintro e w' ⟨rfl, rfl⟩)
        | (go_at_call 40; refine (l1In_any _ _ _ _).mono ?_; rintro e w' ⟨rfl, rfl⟩))
    go_ret
    exact ⟨ret_bool (by rw [qok_mk h rfl]; simp), rfl⟩

theorem specQuoteOk_any (w : Int) (q : Qt) (W : World) :
    Calls Try.prog 79 #[.int .i64 w, qV q] W fun r W' => r = .returned (.bool (qokB w q)) ∧ Below W.heap.size W W' := by
  refine (specQuoteOk_w w q W).mono ?_
  rintro e w' ⟨rfl, rfl⟩
  exact ⟨rfl, (Below.refl _ _).alloc (Nat.le_refl _) _⟩

theorem qok_true {w e p : Int} (h : qokB w (e, p) = true) : evB w e = true ∧ 0 ≤ p ∧ p ≤ 6 ∧ 1 ≤ w ∧ w ≤ 4 ∧ 0 ≤ e ∧ e ≤ 15 := by
  have h1 := (qokB_iff _ _).1 h
  have h2 := (evB_iff _ _).1 h1.1
  have h3 := evB_15 h1.1
  exact ⟨h1.1, h1.2.1, h1.2.2, h2.1, h2.2.1, h3.1, h3.2⟩

end Go.Proofs.Ytebebcomhdjihaa

namespace Go.Proofs.Ytebebcomhdjihaa
open Go.RowKit
set_option linter.unusedVariables false

theorem hasq_tab : ∀ e : Fin 16, ∀ a : Fin 4, (bits BinOp.and IntKind.i64 (((e : Nat) : Int) / 2 ^ (a : Nat)) 1 == 1) = (bitI ((e : Nat) : Int) (a : Nat) == 1) := by decide +kernel

set_option maxHeartbeats 1000000 in
theorem hasQ_any (e : Int) (a : Nat) (h0 : 0 ≤ e) (h1 : e ≤ 15) (ha : a < 4) (W : World) :
    Calls Try.prog 105 #[.int .i64 e, .int .i64 (a : Int)] W fun r W' => r = .returned (.bool (bitI e a == 1)) ∧ W = W' := by
  obtain ⟨k, rfl⟩ := fin16 h0 h1
  have ht := hasq_tab k ⟨a, ha⟩
  have H := Lib.hid ht
  clear ht
  obtain rfl | rfl | rfl | rfl : a = 0 ∨ a = 1 ∨ a = 2 ∨ a = 3 := by omega
  all_goals
    go_enter Try.func105, Try.ntmps105
    go_wp2
    go_ret
    exact ⟨ret_bool (by have := H.out; simpa using this), rfl⟩

theorem box_cells {W wr : World} {q : Qt} (h : Below (W.alloc (qBlk q)).heap.size (W.alloc (qBlk q)) wr) :
    wr.cell? ⟨W.heap.size, 0, none⟩ = some (.int .i64 q.1) ∧ wr.cell? ⟨W.heap.size, 1, none⟩ = some (.int .i64 q.2) := by
  have hb := h.block W.heap.size (by simp)
  have hn : (W.alloc (qBlk q)).heap[W.heap.size]? = some (qBlk q) := heap_alloc_new W _
  have hB : Blk wr W.heap.size 64 #[.int .i64 q.1, .int .i64 q.2] := hb.trans hn
  exact ⟨hB.cell 0, hB.cell 1⟩

end Go.Proofs.Ytebebcomhdjihaa

namespace Go.Proofs.Ytebebcomhdjihaa
open Go.RowKit
set_option linter.unusedVariables false

theorem AppRel.keep {w wr w' : World} {zs : List Int} {k : Nat} {p : Value} (h : AppRel w zs k p wr) (hb : Below wr.heap.size wr w') : AppRel w zs k p w' :=
  ⟨h.1.keep (SameAt.of_below hb), below_step h.2 hb h.2.size⟩

end Go.Proofs.Ytebebcomhdjihaa

namespace Go.Proofs.Ytebebcomhdjihaa
open Go.RowKit
set_option linter.unusedVariables false

section
variable {α : Type}

def GRd (c : Nat) (enc : α → List Value) (w : World) (v : Value) (xs : List α) : Prop :=
  ∃ A cp, v = .slice A xs.length cp ∧ xs.length ≤ cp ∧ cp ≤ 9223372036854775807 ∧
    (0 < xs.length → ∃ b off, A = some ⟨b, off, none⟩ ∧ b < w.heap.size ∧ ∀ i x, xs[i]? = some x → ∀ j u, (enc x)[j]? = some u → w.cell? ⟨b, off + i * c + j, none⟩ = some u)

def GOwn (e : TypeId) (c : Nat) (enc : α → List Value) (w : World) (base : Nat) (v : Value) (xs : List α) : Prop := w.ownsRow base e c v xs.length (xs.flatMap enc)

theorem GRd.keep {c : Nat} {enc : α → List Value} {w w' : World} {v : Value} {xs : List α} (h : GRd c enc w v xs) (hs : SameAt w w' v) : GRd c enc w' v xs := by
  obtain ⟨A, cp, rfl, hl, hm, hc⟩ := h
  refine ⟨A, cp, rfl, hl, hm, fun h0 => ?_⟩
  obtain ⟨b, off, rfl, hb, hcell⟩ := hc h0
  have := hs.1
  refine ⟨b, off, rfl, by omega, fun i x hx j u hu => (World.cell?_of_block (a := ⟨b, off + i * c + j, none⟩) ?_).trans (hcell i x hx j u hu)⟩
  exact hs.2 b rfl hb

theorem GOwn.keep {e : TypeId} {c : Nat} {enc : α → List Value} {w w' : World} {base : Nat} {v : Value} {xs : List α} (h : GOwn e c enc w base v xs) (hs : SameAt w w' v) : GOwn e c enc w' base v xs := by
  refine ⟨h.1, ?_⟩
  rcases h.2 with hn | ⟨g, cap, cur, rfl, hb, hg, rest⟩
  · exact .inl hn
  · exact .inr ⟨g, cap, cur, rfl, hb, (hs.2 g rfl (Array.getElem?_eq_some_iff.1 hg).1).trans hg, rest⟩

theorem flat_len {enc : α → List Value} {c : Nat} (he : ∀ x, (enc x).length = c) (xs : List α) : (xs.flatMap enc).length = xs.length * c := by
  induction xs with
  | nil => simp
  | cons x xs ih => simp only [List.flatMap_cons, List.length_append, List.length_cons, he, ih, Nat.add_mul]; omega

theorem flat_at {enc : α → List Value} {c : Nat} (he : ∀ x, (enc x).length = c) {xs : List α} {i : Nat} {x : α} (hx : xs[i]? = some x) {j : Nat} {u : Value} (hu : (enc x)[j]? = some u) : (xs.flatMap enc)[i * c + j]? = some u := by
  induction xs generalizing i with
  | nil => simp at hx
  | cons y ys ih =>
    rw [List.flatMap_cons]
    cases i with
    | zero =>
      simp at hx
      subst hx
      have hj : j < (enc y).length := (List.getElem?_eq_some_iff.1 hu).1
      rw [Nat.zero_mul, Nat.zero_add, List.getElem?_append_left hj]
      exact hu
    | succ i =>
      simp at hx
      rw [List.getElem?_append_right (by rw [he, Nat.add_mul]; omega), he]
      have := ih hx
      rw [show (i + 1) * c + j - c = i * c + j from by rw [Nat.add_mul]; omega]
      exact this

theorem GOwn.rd {e : TypeId} {c : Nat} {enc : α → List Value} {w : World} {base : Nat} {v : Value} {xs : List α} (he : ∀ x, (enc x).length = c) (h : GOwn e c enc w base v xs) : GRd c enc w v xs := by
  rcases h.2 with ⟨rfl, h0⟩ | ⟨g, cap, cur, rfl, hb, hg, hn, hm, hcs, ht⟩
  · exact ⟨none, 0, by rw [h0], by omega, by omega, fun hp => by omega⟩
  · refine ⟨_, cap, rfl, hn, hm, fun h0 => ⟨g, 0, rfl, (Array.getElem?_eq_some_iff.1 hg).1, fun i x hx j u hu => ?_⟩⟩
    have := h.cells (g := g) rfl (i * c + j) u (flat_at he hx hu)
    rw [addr_add] at this
    rw [← Nat.add_assoc] at this
    exact this

theorem GOwn.ge {e : TypeId} {c : Nat} {enc : α → List Value} {w : World} {base : Nat} {v : Value} {xs : List α} (h : GOwn e c enc w base v xs) : ∀ g, v.ownBlock = some g → base ≤ g ∧ g < w.heap.size := World.ownsRow.lt h

theorem GOwn.base {e : TypeId} {c : Nat} {enc : α → List Value} {w : World} {base base' : Nat} {v : Value} {xs : List α} (h : GOwn e c enc w base v xs) (hb : base' ≤ base) : GOwn e c enc w base' v xs := by
  refine ⟨h.1, ?_⟩
  rcases h.2 with hn | ⟨g, cap, cur, rfl, hb', rest⟩
  · exact .inl hn
  · exact .inr ⟨g, cap, cur, rfl, Nat.le_trans hb hb', rest⟩

theorem GRd.at_ {c : Nat} {enc : α → List Value} {w : World} {A : Option Addr} {n cp : Nat} {xs : List α} (h : GRd c enc w (.slice A n cp) xs) {k : Nat} (hk : k < n) :
    ∃ b off x, A = some ⟨b, off, none⟩ ∧ b < w.heap.size ∧ xs[k]? = some x ∧ ∀ j u, (enc x)[j]? = some u → w.cell? ⟨b, off + k * c + j, none⟩ = some u := by
  obtain ⟨A', cp', e, hl, hm, hc⟩ := h
  injection e with e1 e2 e3
  subst e1
  obtain ⟨b, off, hA, hb, hcell⟩ := hc (by omega)
  have hx : xs[k]? = some (xs[k]'(by omega)) := List.getElem?_eq_getElem (by omega)
  exact ⟨b, off, _, hA, hb, hx, hcell k _ hx⟩

theorem GRd.form {c : Nat} {enc : α → List Value} {w : World} {v : Value} {xs : List α} (h : GRd c enc w v xs) : ∃ A cp, v = .slice A xs.length cp ∧ xs.length ≤ cp ∧ cp ≤ 9223372036854775807 := by
  obtain ⟨A, cp, e, hl, hm, -⟩ := h
  exact ⟨A, cp, e, hl, hm⟩

theorem GRd.nil (c : Nat) (enc : α → List Value) (w : World) : GRd c enc w (.slice none 0 0) [] := ⟨none, 0, rfl, Nat.le_refl _, by omega, fun h => by simp at h⟩

theorem GOwn.nil (e : TypeId) (c : Nat) (enc : α → List Value) (w : World) (base : Nat) : GOwn e c enc w base (.slice none 0 0) ([] : List α) := by simpa [GOwn] using World.ownsRow_nil w base e c

theorem flat_set {enc : α → List Value} {c : Nat} (he : ∀ x, (enc x).length = c) {xs : List α} {k : Nat} (hk : k < xs.length) (x : α) (zs : List Value)
    (hlen : zs.length = (xs.flatMap enc).length) (hin : ∀ j, j < c → zs[k * c + j]? = (enc x)[j]?) (hout : ∀ i, (i < k * c ∨ k * c + c ≤ i) → zs[i]? = (xs.flatMap enc)[i]?) :
    zs = (xs.set k x).flatMap enc := by
  apply List.ext_getElem?
  intro i
  have hl : (xs.flatMap enc).length = xs.length * c := flat_len he xs
  by_cases hi : i < xs.length * c
  · have hc0 : 0 < c := by
      rcases Nat.eq_zero_or_pos c with h | h
      · subst h; omega
      · exact h
    have hdiv : i / c < xs.length := Nat.div_lt_of_lt_mul (by rw [Nat.mul_comm]; exact hi)
    have hmod : i % c < c := Nat.mod_lt _ hc0
    have hdm : i / c * c + i % c = i := by rw [Nat.mul_comm]; exact Nat.div_add_mod i c
    by_cases hik : i / c = k
    · subst hik
      have hx : (xs.set (i / c) x)[i / c]? = some x := by rw [List.getElem?_set_self hdiv]
      have hu : (enc x)[i % c]? = some ((enc x)[i % c]'(by rw [he]; exact hmod)) := List.getElem?_eq_getElem _
      have h1 := hin (i % c) hmod
      rw [hdm] at h1
      have h2 := flat_at he hx hu
      rw [hdm] at h2
      rw [h1, h2, hu]
    · have hx : (xs.set k x)[i / c]? = some (xs[i / c]'hdiv) := by rw [List.getElem?_set_ne (fun e => hik e.symm)]; exact List.getElem?_eq_getElem hdiv
      have hx0 : xs[i / c]? = some (xs[i / c]'hdiv) := List.getElem?_eq_getElem hdiv
      have hu : (enc (xs[i / c]'hdiv))[i % c]? = some ((enc (xs[i / c]'hdiv))[i % c]'(by rw [he]; exact hmod)) := List.getElem?_eq_getElem _
      have h2 := flat_at he hx hu
      have h3 := flat_at he hx0 hu
      rw [hdm] at h2 h3
      have hne : i < k * c ∨ k * c + c ≤ i := by
        rcases Nat.lt_or_gt_of_ne hik with h | h
        · left
          have : (i / c + 1) * c ≤ k * c := Nat.mul_le_mul_right c h
          rw [Nat.add_mul] at this
          omega
        · right
          have : (k + 1) * c ≤ i / c * c := Nat.mul_le_mul_right c h
          rw [Nat.add_mul] at this
          omega
      rw [hout i hne, h2, h3]
  · rw [List.getElem?_eq_none (by omega), List.getElem?_eq_none (by rw [flat_len he, List.length_set]; omega)]

theorem GOwn.set2 {e : TypeId} {enc : α → List Value} {w : World} {base g cp : Nat} {xs : List α} (he : ∀ x, (enc x).length = 2) (h : GOwn e 2 enc w base (.slice (some ⟨g, 0, none⟩) xs.length cp) xs) {k : Nat} (hk : k < xs.length) {x : α} {v0 v1 : Value} (hx : enc x = [v0, v1]) :
    GOwn e 2 enc ((w.setCell ⟨g, k * 2, none⟩ v0).setCell ⟨g, k * 2 + 1, none⟩ v1) base (.slice (some ⟨g, 0, none⟩) xs.length cp) (xs.set k x) ∧ w.grownBy ((w.setCell ⟨g, k * 2, none⟩ v0).setCell ⟨g, k * 2 + 1, none⟩ v1) (some g) := by
  unfold GOwn at h
  obtain ⟨h1, g1⟩ := h.stored (k * 2) v0
  obtain ⟨h2, g2⟩ := h1.stored (k * 2 + 1) v1
  refine ⟨?_, ⟨g2.os.trans g1.os, g2.tape.trans g1.tape, g2.output.trans g1.output, Nat.le_trans g1.size g2.size, fun i hi hne => (g2.block i (Nat.lt_of_lt_of_le hi g1.size) hne).trans (g1.block i hi hne)⟩⟩
  unfold GOwn
  have hl := flat_len he xs
  have key : ((xs.flatMap enc).set (k * 2) v0).set (k * 2 + 1) v1 = (xs.set k x).flatMap enc := by
    refine flat_set he hk x _ (by simp) (fun j hj => ?_) (fun i hi => ?_)
    · have : j = 0 ∨ j = 1 := by omega
      rcases this with rfl | rfl
      · rw [List.getElem?_set_ne (by omega), Nat.add_zero, List.getElem?_set_self (by omega), hx]; rfl
      · rw [List.getElem?_set_self (by rw [List.length_set]; omega), hx]; rfl
    · rw [List.getElem?_set_ne (by omega), List.getElem?_set_ne (by omega)]
  rw [List.length_set, ← key]
  exact h2

theorem GOwn.old {e : TypeId} {c : Nat} {enc : α → List Value} {w : World} {base g cp : Nat} {n : Nat} {xs : List α} (he : ∀ x, (enc x).length = c) (h : GOwn e c enc w base (.slice (some ⟨g, 0, none⟩) n cp) xs) (hn : xs.length = n) {k j : Nat} (hk : k < n) (hj : j < c) :
    w.frozen? ⟨g, k * c + j, none⟩ = false ∧ ∃ old, w.cell? ⟨g, k * c + j, none⟩ = some old := by
  subst hn
  unfold GOwn at h
  refine ⟨h.frozenAt _, ?_⟩
  have hlt : k * c + j < xs.length * c := by
    have : (k + 1) * c ≤ xs.length * c := Nat.mul_le_mul_right c hk
    rw [Nat.add_mul] at this
    omega
  rw [h.cellAt _ hlt]
  have : k * c + j < (xs.flatMap enc).length := by rw [flat_len he]; exact hlt
  exact ⟨_, List.getElem?_eq_getElem this⟩

def upto (xs : List α) (z : α) (k : Nat) : List α := xs.take k ++ List.replicate (xs.length - k) z

theorem upto_len (xs : List α) (z : α) {k : Nat} (hk : k ≤ xs.length) : (upto xs z k).length = xs.length := by simp [upto]; omega

theorem upto_zero (xs : List α) (z : α) : upto xs z 0 = List.replicate xs.length z := by simp [upto]

theorem upto_all (xs : List α) (z : α) : upto xs z xs.length = xs := by simp [upto]

theorem upto_set {xs : List α} {z : α} {k : Nat} {x : α} (hx : xs[k]? = some x) : (upto xs z k).set k x = upto xs z (k + 1) := by
  have hk : k < xs.length := (List.getElem?_eq_some_iff.1 hx).1
  unfold upto
  rw [List.set_append_right _ _ (by rw [List.length_take]; omega), List.length_take, Nat.min_eq_left (Nat.le_of_lt hk), Nat.sub_self, List.take_add_one, hx, List.append_assoc]
  congr 1
  obtain ⟨m, hm⟩ : ∃ m, xs.length - k = m + 1 := ⟨xs.length - k - 1, by omega⟩
  rw [hm, List.replicate_succ, List.set_cons_zero, show xs.length - (k + 1) = m from by omega]
  rfl

def GFill (e : TypeId) (c : Nat) (enc : α → List Value) (z : α) (w : World) (xs : List α) (k : Nat) (wr : World) : Prop :=
  GOwn e c enc wr w.heap.size (.slice (some ⟨w.heap.size, 0, none⟩) xs.length xs.length) (upto xs z k) ∧ Below w.heap.size w wr

theorem GFill.all {e : TypeId} {c : Nat} {enc : α → List Value} {z : α} {w wr : World} {xs : List α} {k : Nat} (h : GFill e c enc z w xs k wr) (hk : k = xs.length) : GOwn e c enc wr w.heap.size (.slice (some ⟨w.heap.size, 0, none⟩) xs.length xs.length) xs ∧ Below w.heap.size w wr := by
  subst hk
  obtain ⟨h1, h2⟩ := h
  rw [upto_all] at h1
  exact ⟨h1, h2⟩

theorem GFill.keep {e : TypeId} {c : Nat} {enc : α → List Value} {z : α} {w wr w' : World} {xs : List α} {k : Nat} (h : GFill e c enc z w xs k wr) (hb : Below wr.heap.size wr w') : GFill e c enc z w xs k w' :=
  ⟨h.1.keep (SameAt.of_below hb), below_step h.2 hb h.2.size⟩

theorem GFill.old {e : TypeId} {c : Nat} {enc : α → List Value} {z : α} {w wr : World} {xs : List α} {k : Nat} (he : ∀ x, (enc x).length = c) (h : GFill e c enc z w xs k wr) (hk : k < xs.length) {j : Nat} (hj : j < c) :
    wr.frozen? ⟨w.heap.size, k * c + j, none⟩ = false ∧ ∃ old, wr.cell? ⟨w.heap.size, k * c + j, none⟩ = some old :=
  h.1.old he (upto_len xs z (Nat.le_of_lt hk)) hk hj

theorem GFill.step2 {e : TypeId} {enc : α → List Value} {z : α} {w wr : World} {xs : List α} {k : Nat} {x : α} {v0 v1 : Value} (he : ∀ x, (enc x).length = 2) (h : GFill e 2 enc z w xs k wr) (hx : xs[k]? = some x) (hv : enc x = [v0, v1]) :
    GFill e 2 enc z w xs (k + 1) ((wr.setCell ⟨w.heap.size, k * 2, none⟩ v0).setCell ⟨w.heap.size, k * 2 + 1, none⟩ v1) := by
  have hk : k < xs.length := (List.getElem?_eq_some_iff.1 hx).1
  obtain ⟨h1, h2⟩ := h
  have hl := upto_len xs z (Nat.le_of_lt hk)
  rw [← hl] at h1
  have hk' : k < (upto xs z k).length := by rw [hl]; exact hk
  obtain ⟨h3, h4⟩ := GOwn.set2 (cp := (upto xs z k).length) he h1 hk' hv
  rw [upto_set hx, hl] at h3
  exact ⟨h3, h2.grown h4 h2.size (fun g hg => by injection hg with hg; omega)⟩

theorem flat_made {enc : α → List Value} {c : Nat} (he : ∀ x, (enc x).length = c) (hc : 0 < c) (z : α) (n : Nat) : (madeCells (enc z).toArray (n * c)).toList = (List.replicate n z).flatMap enc := by
  apply List.ext_getElem?
  intro i
  by_cases hi : i < n * c
  · have hdiv : i / c < n := Nat.div_lt_of_lt_mul (by rw [Nat.mul_comm]; exact hi)
    have hmod : i % c < c := Nat.mod_lt _ hc
    have hdm : i / c * c + i % c = i := by rw [Nat.mul_comm]; exact Nat.div_add_mod i c
    have hm : i % c < (enc z).length := by rw [he]; exact hmod
    have hx : (List.replicate n z)[i / c]? = some z := by simp [hdiv]
    have h2 := flat_at he hx (List.getElem?_eq_getElem hm)
    rw [hdm] at h2
    rw [h2]
    simp only [madeCells, Array.toList_map, Array.toList_range, List.getElem?_map, List.getElem?_range hi, Option.map_some, List.size_toArray, he]
    congr 1
    simp [List.getElem?_eq_getElem hm]
  · rw [List.getElem?_eq_none (by simp [size_madeCells]; omega), List.getElem?_eq_none (by rw [flat_len he, List.length_replicate]; omega)]

theorem GFill.start {e : TypeId} {c : Nat} {enc : α → List Value} (he : ∀ x, (enc x).length = c) (hc : 0 < c) (z : α) {w w0 : World} {xs : List α} {n : Nat} {zc : Array Value}
    (hown : w0.ownsRow w.heap.size e c (.slice (some ⟨w.heap.size, 0, none⟩) n n) n (madeCells zc (n * c)).toList) (hz : zc = (enc z).toArray) (hn : xs.length = n) (hg : w.grownBy w0 none) : GFill e c enc z w xs 0 w0 := by
  subst hz
  subst hn
  refine ⟨?_, (Below.refl _ _).grown hg (Nat.le_refl _) (fun k hk => by cases hk)⟩
  rw [upto_zero]
  unfold GOwn
  rw [List.length_replicate, ← flat_made he hc]
  exact hown

end

end Go.Proofs.Ytebebcomhdjihaa

namespace Go.Proofs.Ytebebcomhdjihaa
open Go.RowKit
set_option linter.unusedVariables false

def qC (q : Qt) : List Value := [.int .i64 q.1, .int .i64 q.2]

theorem qC_len (q : Qt) : (qC q).length = 2 := rfl

abbrev QRd (w : World) (v : Value) (qs : List Qt) : Prop := GRd 2 qC w v qs

abbrev QOwn (w : World) (base : Nat) (v : Value) (qs : List Qt) : Prop := GOwn 64 2 qC w base v qs

theorem QRd.at_ {w : World} {A : Option Addr} {n cp : Nat} {qs : List Qt} (h : QRd w (.slice A n cp) qs) {k : Nat} (hk : k < n) :
    ∃ b off q, A = some ⟨b, off, none⟩ ∧ b < w.heap.size ∧ qs[k]? = some q ∧ w.cell? ⟨b, off + k * 2, none⟩ = some (.int .i64 q.1) ∧ w.cell? ⟨b, off + k * 2 + 1, none⟩ = some (.int .i64 q.2) := by
  obtain ⟨b, off, q, hA, hb, hx, hc⟩ := GRd.at_ h hk
  exact ⟨b, off, q, hA, hb, hx, hc 0 _ rfl, hc 1 _ rfl⟩

theorem QRd.cell {w : World} {b off n c : Nat} {qs : List Qt} {k : Nat} {q : Qt} (h : QRd w (.slice (some ⟨b, off, none⟩) n c) qs) (hq : qs[k]? = some q) : w.cell? ⟨b, off + k * 2, none⟩ = some (.int .i64 q.1) ∧ w.cell? ⟨b, off + k * 2 + 1, none⟩ = some (.int .i64 q.2) := by
  have hk : k < qs.length := (List.getElem?_eq_some_iff.1 hq).1
  obtain ⟨A, cp, e, hl, hm, hc⟩ := h
  injection e with e1 e2 e3
  obtain ⟨b', off', hA, -, hcell⟩ := hc (by omega)
  rw [← e1] at hA
  injection hA with hA
  injection hA with hb ho
  subst hb
  subst ho
  exact ⟨hcell k q hq 0 _ rfl, hcell k q hq 1 _ rfl⟩

theorem IRd.cellk {w : World} {b off n c : Nat} {xs : List Int} {k : Nat} {x : Int} (h : IRd w (.slice (some ⟨b, off, none⟩) n c) xs) (hx : xs[k]? = some x) : w.cell? ⟨b, off + k, none⟩ = some (.int .i64 x) := by
  have hk : k < xs.length := (List.getElem?_eq_some_iff.1 hx).1
  obtain ⟨A, c, e, hl, hm, hc⟩ := h
  injection e with e1 e2 e3
  obtain ⟨b', off', hA, -, hcell⟩ := hc (by omega)
  rw [← e1] at hA
  injection hA with hA
  injection hA with hb ho
  subst hb
  subst ho
  exact hcell k x hx

theorem bokB_no {w : Int} {qs : List Qt} {k : Nat} {q : Qt} (hx : qs[k]? = some q) (h : qokB w q = false) : bokB w qs = false := by
  rw [← Bool.not_eq_true, bokB_iff]
  intro h2
  have := h2.2.2 q (List.mem_of_getElem? hx)
  rw [h] at this; cases this

theorem allq_take {w : Int} {qs : List Qt} {k : Nat} {q : Qt} (hx : qs[k]? = some q) (h : qokB w q = true) (ih : ∀ y ∈ qs.take k, qokB w y = true) : ∀ y ∈ qs.take (k + 1), qokB w y = true := by
  rw [List.take_add_one, hx]
  intro y hy
  rcases List.mem_append.1 hy with h1 | h1
  · exact ih y h1
  · simp at h1; subst h1; exact h

theorem bokB_all {w : Int} {qs : List Qt} {k : Nat} (hk : qs.length ≤ k) (ih : ∀ y ∈ qs.take k, qokB w y = true) : bokB w qs = (wokB w && decide (qs.length ≤ 3)) := by
  rw [List.take_of_length_le hk] at ih
  have : qs.all (qokB w) = true := List.all_eq_true.2 ih
  rw [bokB, this, Bool.and_true]

set_option maxHeartbeats 1000000 in
theorem implBookOk_any (w : World) (n : Int) (v : Value) (qs : List Qt) (hv : QRd w v qs) :
    Calls Try.prog 77 #[.int .i64 n, v] w fun r w' => r = .returned (.bool (bokB n qs)) ∧ Below w.heap.size w w' := by
  obtain ⟨A, c, rfl, hl, hm⟩ := hv.form
  have HV := Lib.hid hv
  clear hv
  rcases Bool.eq_false_or_eq_true (wokB n) with hw | hw
  · by_cases h3 : qs.length ≤ 3
    · have HW : Hid (bokB n qs = true ↔ ∀ y ∈ qs, qokB n y = true) := Lib.hid (by
        rw [bokB, hw, decide_eq_true h3, Bool.true_and, Bool.true_and, List.all_eq_true])
      have h3' : (qs.length : Int) ≤ 3 := by omega
      go_enter Try.func77, Try.ntmps77
      go_wp2_with fail
      refine (worldsOk_any n _).mono ?_
      rintro r w' ⟨rfl, rfl⟩
      rw [hw]
      go_wp2_with fail
      go_loopw [17] (fun i wr => ∃ k : Nat, i = .int .i64 k ∧ k ≤ qs.length ∧ Hid (∀ y ∈ qs.take k, qokB n y = true) ∧ Hid (Below w.heap.size w wr)) (fun i _ => qs.length - (intOf i).toNat)
      case atStart => exact ⟨0, rfl, Nat.zero_le _, Lib.hid (by simp), Lib.hid (Below.refl _ _)⟩
      case round =>
        obtain ⟨k, rfl, hk, HA, HB⟩ := hrel
        by_cases hlt : k < qs.length
        · obtain ⟨b, off, q, rfl, -, hx, hc0, hc1⟩ := QRd.at_ (HV.out.keep (SameAt.of_below HB.out)) hlt
          have HX := Lib.hid hx
          clear hx
          rcases Bool.eq_false_or_eq_true (qokB n q) with hq | hq
          · have HQ := Lib.hid hq
            go_wp2_with fail
            refine (implQuoteOk_any n q _).mono ?_
            rintro r w2 ⟨rfl, b2⟩
            rw [hq]
            have HB2 : Hid (Below w.heap.size w w2) := Lib.hid (below_step (HB.out.alloc HB.out.size _) b2 (by simp; have := HB.out.size; omega))
            clear b2 hc0 hc1
            go_wp2_with fail
            go_roundw
            case rel => exact ⟨k + 1, by go_num, by omega, Lib.hid (allq_take HX.out HQ.out HA.out), HB2⟩
            case measure => simp [intOf]; omega
          · have HQ := Lib.hid hq
            go_wp2_with fail
            refine (implQuoteOk_any n q _).mono ?_
            rintro r w2 ⟨rfl, b2⟩
            rw [hq]
            have HB2 : Hid (Below w.heap.size w w2) := Lib.hid (below_step (HB.out.alloc HB.out.size _) b2 (by simp; have := HB.out.size; omega))
            clear b2 hc0 hc1
            go_wp2_with fail
            go_ret
            exact ⟨ret_bool (bokB_no HX.out HQ.out).symm, HB2.out⟩
        · go_wp2_with fail
          go_ret
          exact ⟨ret_bool (HW.out.2 (by have := HA.out; rwa [List.take_of_length_le (by omega)] at this)).symm, HB.out⟩
    · have h3' : (3 : Int) < (qs.length : Int) := by omega
      have HN : Hid (bokB n qs = false) := Lib.hid (by rw [bokB, decide_eq_false h3]; simp)
      go_enter Try.func77, Try.ntmps77
      go_wp2_with fail
      refine (worldsOk_any n _).mono ?_
      rintro r w' ⟨rfl, rfl⟩
      rw [hw]
      go_wp2_with fail
      go_ret
      exact ⟨ret_bool HN.out.symm, Below.refl _ _⟩
  · have HN : Hid (bokB n qs = false) := Lib.hid (by rw [bokB, hw]; rfl)
    go_enter Try.func77, Try.ntmps77
    go_wp2_with fail
    refine (worldsOk_any n _).mono ?_
    rintro r w' ⟨rfl, rfl⟩
    rw [hw]
    go_wp2_with fail
    go_ret
    exact ⟨ret_bool HN.out.symm, Below.refl _ _⟩

theorem inB_wok (n : Int) : inB n 1 4 = wokB n := bool_eq (by rw [inB_iff, wokB_iff])

set_option maxHeartbeats 1000000 in
theorem specBookOk_any (w : World) (n : Int) (v : Value) (qs : List Qt) (hv : QRd w v qs) :
    Calls Try.prog 66 #[.int .i64 n, v] w fun r w' => r = .returned (.bool (bokB n qs)) ∧ Below w.heap.size w w' := by
  obtain ⟨A, c, rfl, hl, hm⟩ := hv.form
  have HV := Lib.hid hv
  clear hv
  go_enter Try.func66, Try.ntmps66
  go_wp2_with fail
  go_loopw [5] (fun i wr => ∃ k : Nat, i = .int .i64 k ∧ k ≤ qs.length ∧ Hid (∀ y ∈ qs.take k, qokB n y = true) ∧ Hid (Below w.heap.size w wr)) (fun i _ => qs.length - (intOf i).toNat)
  case atStart => exact ⟨0, rfl, Nat.zero_le _, Lib.hid (by simp), Lib.hid (Below.refl _ _)⟩
  case round =>
    obtain ⟨k, rfl, hk, HA, HB⟩ := hrel
    by_cases hlt : k < qs.length
    · obtain ⟨b, off, q, rfl, -, hx, hc0, hc1⟩ := QRd.at_ (HV.out.keep (SameAt.of_below HB.out)) hlt
      have HX := Lib.hid hx
      clear hx
      rcases Bool.eq_false_or_eq_true (qokB n q) with hq | hq
      · have HQ := Lib.hid hq
        go_wp2_with fail
        refine (specQuoteOk_any n q _).mono ?_
        rintro r w2 ⟨rfl, b2⟩
        rw [hq]
        have HB2 : Hid (Below w.heap.size w w2) := Lib.hid (below_step HB.out b2 HB.out.size)
        clear b2 hc0 hc1
        go_wp2_with fail
        go_roundw
        case rel => exact ⟨k + 1, by go_num, by omega, Lib.hid (allq_take HX.out HQ.out HA.out), HB2⟩
        case measure => simp [intOf]; omega
      · have HQ := Lib.hid hq
        go_wp2_with fail
        refine (specQuoteOk_any n q _).mono ?_
        rintro r w2 ⟨rfl, b2⟩
        rw [hq]
        have HB2 : Hid (Below w.heap.size w w2) := Lib.hid (below_step HB.out b2 HB.out.size)
        clear b2 hc0 hc1
        go_wp2_with fail
        go_ret
        exact ⟨ret_bool (bokB_no HX.out HQ.out).symm, HB2.out⟩
    · have HN := Lib.hid (bokB_all (w := n) (qs := qs) (k := k) (by omega) HA.out)
      rcases Bool.eq_false_or_eq_true (wokB n) with hw | hw
      · by_cases h3 : qs.length ≤ 3
        · have h3' : (qs.length : Int) ≤ 3 := by omega
          go_wp2_with fail
          refine (l1In_any n _ _ _).mono ?_
          rintro r w' ⟨rfl, rfl⟩
          rw [inB_wok, hw]
          go_wp2_with fail
          go_ret
          exact ⟨ret_bool (by rw [HN.out, hw, decide_eq_true h3]; rfl), HB.out⟩
        · have h3' : (3 : Int) < (qs.length : Int) := by omega
          go_wp2_with fail
          refine (l1In_any n _ _ _).mono ?_
          rintro r w' ⟨rfl, rfl⟩
          rw [inB_wok, hw]
          go_wp2_with fail
          go_ret
          exact ⟨ret_bool (by rw [HN.out, hw, decide_eq_false h3]; simp; omega), HB.out⟩
      · go_wp2_with fail
        refine (l1In_any n _ _ _).mono ?_
        rintro r w' ⟨rfl, rfl⟩
        rw [inB_wok, hw]
        go_wp2_with fail
        go_ret
        exact ⟨ret_bool (by rw [HN.out, hw]; rfl), HB.out⟩

end Go.Proofs.Ytebebcomhdjihaa

namespace Go.Proofs.Ytebebcomhdjihaa
set_option linter.unusedVariables false

def lay : Nat → Nat → List (List Nat)
  | 0, _ => []
  | 1, g => [[g]]
  | w + 2, g => (List.range (g + 1)).flatMap fun a => (lay (w + 1) (g - a)).map fun m => a :: m

theorem mem_lay (w g : Nat) (m : List Nat) : m ∈ lay (w + 1) g ↔ m.length = w + 1 ∧ m.sum = g := by
  induction w generalizing g m with
  | zero =>
    rw [show lay (0 + 1) g = [[g]] from rfl, List.mem_singleton]
    constructor
    · rintro rfl; simp
    · rintro ⟨h1, h2⟩
      match m, h1 with
      | [x], _ => simp at h2; rw [h2]
  | succ w ih =>
    rw [show lay (w + 1 + 1) g = (List.range (g + 1)).flatMap fun a => (lay (w + 1) (g - a)).map fun m => a :: m from rfl]
    simp only [List.mem_flatMap, List.mem_range, List.mem_map]
    constructor
    · rintro ⟨a, ha, t, ht, rfl⟩
      obtain ⟨h1, h2⟩ := (ih _ _).1 ht
      simp only [List.length_cons, List.sum_cons]
      omega
    · rintro ⟨h1, h2⟩
      match m, h1 with
      | a :: t, h1 =>
        simp only [List.length_cons, List.sum_cons] at h1 h2
        exact ⟨a, by omega, t, (ih _ _).2 ⟨by omega, by omega⟩, rfl⟩

def firstL (n g : Nat) : List Nat := List.replicate (n - 1) 0 ++ [g]

def stepL : List Nat → Option (List Nat)
  | [] => none
  | [_] => none
  | a :: x :: r => match stepL (x :: r) with
    | some t => some (a :: t)
    | none => if x = 0 then none else some ((a + 1) :: firstL (r.length + 1) (x - 1))

def chainB : List (List Nat) → Bool
  | [] => true
  | [m] => stepL m == none
  | m :: n :: l => stepL m == some n && chainB (n :: l)

theorem chain_at {l : List (List Nat)} (h : chainB l = true) {k : Nat} {m : List Nat} (hm : l[k]? = some m) : stepL m = l[k + 1]? := by
  induction l generalizing k with
  | nil => simp at hm
  | cons x l ih =>
    cases l with
    | nil =>
      cases k with
      | zero => simp at hm; subst hm; simpa [chainB] using h
      | succ k => simp at hm
    | cons y l =>
      simp only [chainB, Bool.and_eq_true, beq_iff_eq] at h
      cases k with
      | zero => simp at hm; subst hm; simpa using h.1
      | succ k => simp only [List.getElem?_cons_succ] at hm ⊢; exact ih h.2 hm

theorem lay_first (w g : Nat) : (lay (w + 1) g)[0]? = some (firstL (w + 1) g) := by
  induction w generalizing g with
  | zero => rfl
  | succ w ih =>
    rw [show lay (w + 1 + 1) g = (List.range (g + 1)).flatMap fun a => (lay (w + 1) (g - a)).map fun m => a :: m from rfl]
    rw [List.range_succ_eq_map, List.flatMap_cons]
    have h := ih (g - 0)
    obtain ⟨l, hl⟩ : ∃ l, lay (w + 1) (g - 0) = firstL (w + 1) (g - 0) :: l := by
      cases hc : lay (w + 1) (g - 0) with
      | nil => rw [hc] at h; simp at h
      | cons x l => rw [hc] at h; simp at h; exact ⟨l, by rw [h, Nat.sub_zero]⟩
    rw [hl]
    simp [firstL, List.replicate_succ]

def onI : List Int → Int → Int
  | [], _ => 0
  | x :: m, e => e % 2 * x + onI m (e / 2)

theorem bitI_zero (e : Int) : bitI e 0 = e % 2 := by simp [bitI]

theorem bitI_succ (e : Int) (k : Nat) : bitI (e / 2) k = bitI e (k + 1) := by
  unfold bitI
  rw [Int.ediv_ediv_of_nonneg (by decide), show (2 : Int) * 2 ^ k = 2 ^ (k + 1) from by rw [Int.pow_succ, Int.mul_comm]]

theorem onI_snoc (m : List Int) (x e : Int) : onI (m ++ [x]) e = onI m e + bitI e m.length * x := by
  induction m generalizing e with
  | nil => simp [onI, bitI_zero]
  | cons y m ih =>
    simp only [List.cons_append, onI, List.length_cons]
    rw [ih, bitI_succ]; omega

theorem onI_take {m : List Int} {k : Nat} {x : Int} (hx : m[k]? = some x) (e : Int) : onI (m.take (k + 1)) e = onI (m.take k) e + bitI e k * x := by
  have hk : k < m.length := by
    rcases Nat.lt_or_ge k m.length with h1 | h1
    · exact h1
    · rw [List.getElem?_eq_none h1] at hx; cases hx
  rw [List.take_add_one, hx, Option.toList_some, onI_snoc, List.length_take, Nat.min_eq_left (Nat.le_of_lt hk)]

theorem onI_bound {m : List Int} (h : ∀ x ∈ m, 0 ≤ x) (e : Int) : 0 ≤ onI m e ∧ onI m e ≤ m.sum := by
  induction m generalizing e with
  | nil => simp [onI]
  | cons x m ih =>
    have h1 := ih (fun y hy => h y (by simp [hy])) (e / 2)
    have h2 := h x (by simp)
    simp only [onI, List.sum_cons]
    rcases Int.emod_two_eq e with h3 | h3 <;> rw [h3] <;> omega

def meaB (m : List Int) : Bool := m.all (fun x => inB x 0 36) && decide (1 ≤ m.length) && decide (m.length ≤ 4) && decide (m.sum = 36)

theorem meaB_iff (m : List Int) : meaB m = true ↔ (∀ x ∈ m, 0 ≤ x ∧ x ≤ 36) ∧ 1 ≤ m.length ∧ m.length ≤ 4 ∧ m.sum = 36 := by
  simp only [meaB, Bool.and_eq_true, decide_eq_true_eq, List.all_eq_true, inB_iff, and_assoc]

def natL (l : List Nat) : List Int := l.map Int.ofNat

theorem natL_len (l : List Nat) : (natL l).length = l.length := by simp [natL]

theorem natL_sum (l : List Nat) : (natL l).sum = (l.sum : Nat) := by
  induction l with
  | nil => rfl
  | cons x l ih =>
    simp only [natL, List.map_cons, List.sum_cons] at ih ⊢
    rw [ih]; simp

theorem mea_lay (m : List Int) : meaB m = true ↔ (1 ≤ m.length ∧ m.length ≤ 4) ∧ ∃ l ∈ lay m.length 36, m = natL l := by
  rw [meaB_iff]
  constructor
  · rintro ⟨h1, h2, h3, h4⟩
    refine ⟨⟨h2, h3⟩, m.map Int.toNat, ?_, ?_⟩
    · obtain ⟨w, hw⟩ : ∃ w, m.length = w + 1 := ⟨m.length - 1, by omega⟩
      rw [hw, mem_lay]
      refine ⟨by simp [hw], ?_⟩
      have : (natL (m.map Int.toNat)).sum = 36 := by
        rw [← h4]
        congr 1
        unfold natL
        rw [List.map_map]
        conv => rhs; rw [← List.map_id m]
        apply List.map_congr_left
        intro x hx
        have := h1 x hx
        simp; omega
      rw [natL_sum] at this
      omega
    · unfold natL
      rw [List.map_map]
      conv => lhs; rw [← List.map_id m]
      apply List.map_congr_left
      intro x hx
      have := h1 x hx
      simp; omega
  · rintro ⟨⟨h2, h3⟩, l, hl, e⟩
    obtain ⟨w, hw⟩ : ∃ w, m.length = w + 1 := ⟨m.length - 1, by omega⟩
    rw [hw, mem_lay] at hl
    have hs : m.sum = 36 := by rw [e, natL_sum, hl.2]; rfl
    have hn : ∀ x ∈ m, 0 ≤ x := by
      intro x hx
      rw [e] at hx
      obtain ⟨y, -, rfl⟩ := List.mem_map.1 hx
      simp
    refine ⟨fun x hx => ⟨hn x hx, ?_⟩, h2, h3, hs⟩
    rw [← hs]
    clear e hl hs hw h2 h3
    induction m with
    | nil => simp at hx
    | cons y m ih =>
      have hm : 0 ≤ m.sum := (fun hb => Int.le_trans hb.1 hb.2) (onI_bound (fun z hz => hn z (by simp [hz])) 0)
      have hy := hn y (by simp)
      simp only [List.sum_cons]
      rcases List.mem_cons.1 hx with rfl | hx
      · omega
      · have := ih (fun z hz => hn z (by simp [hz])) hx; omega

def fitI (m : List Int) (qs : List Qt) : Bool := qs.all fun q => onI m q.1 * 6 == q.2 * 36

theorem fitI_iff (m : List Int) (qs : List Qt) : fitI m qs = true ↔ ∀ q ∈ qs, onI m q.1 = 6 * q.2 := by
  simp only [fitI, List.all_eq_true, beq_iff_eq]
  constructor
  · intro h q hq; have := h q hq; omega
  · intro h q hq; have := h q hq; omega

end Go.Proofs.Ytebebcomhdjihaa

namespace Go.Proofs.Ytebebcomhdjihaa
set_option linter.unusedVariables false

theorem chain36 : chainB (lay 1 36) = true ∧ chainB (lay 2 36) = true ∧ chainB (lay 3 36) = true ∧ chainB (lay 4 36) = true := by decide +kernel

theorem chain18 : chainB (lay 1 18) = true ∧ chainB (lay 2 18) = true ∧ chainB (lay 3 18) = true ∧ chainB (lay 4 18) = true := by decide +kernel

theorem chain12 : chainB (lay 1 12) = true ∧ chainB (lay 2 12) = true ∧ chainB (lay 3 12) = true ∧ chainB (lay 4 12) = true := by decide +kernel

theorem chain6 : chainB (lay 1 6) = true ∧ chainB (lay 2 6) = true ∧ chainB (lay 3 6) = true ∧ chainB (lay 4 6) = true := by decide +kernel

theorem chain_of {w g : Nat} (h1 : 1 ≤ w) (h4 : w ≤ 4) (hg : g = 36 ∨ g = 18 ∨ g = 12 ∨ g = 6) : chainB (lay w g) = true := by
  obtain rfl | rfl | rfl | rfl : w = 1 ∨ w = 2 ∨ w = 3 ∨ w = 4 := by omega
  all_goals obtain rfl | rfl | rfl | rfl := hg
  · exact chain36.1
  · exact chain18.1
  · exact chain12.1
  · exact chain6.1
  · exact chain36.2.1
  · exact chain18.2.1
  · exact chain12.2.1
  · exact chain6.2.1
  · exact chain36.2.2.1
  · exact chain18.2.2.1
  · exact chain12.2.2.1
  · exact chain6.2.2.1
  · exact chain36.2.2.2
  · exact chain18.2.2.2
  · exact chain12.2.2.2
  · exact chain6.2.2.2

end Go.Proofs.Ytebebcomhdjihaa

namespace Go.Proofs.Ytebebcomhdjihaa
set_option linter.unusedVariables false

def tup : Nat → List (List Nat)
  | 0 => [[]]
  | w + 1 => (List.range 6).flatMap fun a => (tup w).map fun m => a :: m

def onN : List Nat → Nat → Nat
  | [], _ => 0
  | x :: m, e => e % 2 * x + onN m (e / 2)

def evs (w : Nat) (r : List Nat) : List Nat := (List.range (2 ^ w)).filter fun e => e % 2 == 0 && onN r e % 6 == 0

def unitB (w : Nat) (r : List Nat) : Bool := !(r.sum % 6 == 0) || (evs w r).all fun e1 => (evs w r).all fun e2 => (evs w r).all fun e3 =>
  (lay w (r.sum / 3)).any fun c => onN c e1 * 3 == onN r e1 && onN c e2 * 3 == onN r e2 && onN c e3 * 3 == onN r e3

theorem unit_tab : (tup 1).all (unitB 1) = true ∧ (tup 2).all (unitB 2) = true ∧ (tup 3).all (unitB 3) = true ∧ (tup 4).all (unitB 4) = true := by decide +kernel

end Go.Proofs.Ytebebcomhdjihaa

namespace Go.Proofs.Ytebebcomhdjihaa
set_option linter.unusedVariables false

theorem onN_cast (l : List Nat) (e : Nat) : onI (natL l) (e : Int) = (onN l e : Nat) := by
  induction l generalizing e with
  | nil => rfl
  | cons x l ih =>
    show (e : Int) % 2 * (x : Int) + onI (natL l) ((e : Int) / 2) = _
    rw [show (e : Int) / 2 = ((e / 2 : Nat) : Int) from by omega, ih, show (e : Int) % 2 = ((e % 2 : Nat) : Int) from by omega]
    simp [onN]

theorem onN_not (l : List Nat) (e : Nat) (h : e < 2 ^ l.length) : onN l e + onN l (2 ^ l.length - 1 - e) = l.sum := by
  induction l generalizing e with
  | nil => simp [onN]
  | cons x l ih =>
    simp only [onN, List.sum_cons, List.length_cons] at *
    have hp : 2 ^ (l.length + 1) = 2 * 2 ^ l.length := by rw [Nat.pow_succ, Nat.mul_comm]
    have := ih (e / 2) (by omega)
    rw [show (2 ^ (l.length + 1) - 1 - e) / 2 = 2 ^ l.length - 1 - e / 2 from by omega]
    rcases Nat.mod_two_eq_zero_or_one e with h2 | h2
    · rw [h2, show (2 ^ (l.length + 1) - 1 - e) % 2 = 1 from by omega]; omega
    · rw [h2, show (2 ^ (l.length + 1) - 1 - e) % 2 = 0 from by omega]; omega

theorem onN_lin (l : List Nat) (f g : Nat → Nat) (a b : Nat) (h : ∀ x ∈ l, x = a * f x + b * g x) (e : Nat) : onN l e = a * onN (l.map f) e + b * onN (l.map g) e := by
  induction l generalizing e with
  | nil => simp [onN]
  | cons x l ih =>
    simp only [onN, List.map_cons]
    rw [ih (fun y hy => h y (by simp [hy])) (e / 2)]
    have := h x (by simp)
    rcases Nat.mod_two_eq_zero_or_one e with h2 | h2 <;> rw [h2]
    · simp
    · simp only [Nat.one_mul, Nat.mul_add]; omega

theorem sum_lin (l : List Nat) (f g : Nat → Nat) (a b : Nat) (h : ∀ x ∈ l, x = a * f x + b * g x) : l.sum = a * (l.map f).sum + b * (l.map g).sum := by
  induction l with
  | nil => simp
  | cons x l ih =>
    simp only [List.sum_cons, List.map_cons]
    rw [ih (fun y hy => h y (by simp [hy]))]
    have := h x (by simp)
    simp only [Nat.mul_add]; omega

def two1 : List Nat → List Nat → List Nat
  | x :: a, y :: b => (2 * x + y) :: two1 a b
  | _, _ => []

theorem two1_facts (a b : List Nat) (h : a.length = b.length) : (two1 a b).length = a.length ∧ (two1 a b).sum = 2 * a.sum + b.sum ∧ ∀ e, onN (two1 a b) e = 2 * onN a e + onN b e := by
  induction a generalizing b with
  | nil =>
    cases b with
    | nil => simp [two1, onN]
    | cons y b => simp at h
  | cons x a ih =>
    cases b with
    | nil => simp at h
    | cons y b =>
      obtain ⟨h1, h2, h3⟩ := ih b (by simpa using h)
      refine ⟨by simp [two1, h1], by simp only [two1, List.sum_cons, h2]; omega, fun e => ?_⟩
      simp only [two1, onN, h3]
      rcases Nat.mod_two_eq_zero_or_one e with h2 | h2 <;> rw [h2] <;> omega

theorem tup_mem (l : List Nat) (h : ∀ x ∈ l, x < 6) : l ∈ tup l.length := by
  induction l with
  | nil => simp [tup]
  | cons x l ih =>
    simp only [List.length_cons, tup, List.mem_flatMap, List.mem_range, List.mem_map]
    exact ⟨x, h x (by simp), l, ih (fun y hy => h y (by simp [hy])), rfl⟩

theorem unit_of {w : Nat} (h1 : 1 ≤ w) (h4 : w ≤ 4) {r : List Nat} (hr : r ∈ tup w) : unitB w r = true := by
  obtain ⟨t1, t2, t3, t4⟩ := unit_tab
  obtain rfl | rfl | rfl | rfl : w = 1 ∨ w = 2 ∨ w = 3 ∨ w = 4 := by omega
  · exact List.all_eq_true.1 t1 r hr
  · exact List.all_eq_true.1 t2 r hr
  · exact List.all_eq_true.1 t3 r hr
  · exact List.all_eq_true.1 t4 r hr

def normE (w e : Nat) : Nat := if e % 2 = 1 then 2 ^ w - 1 - e else e

theorem norm_even {w e : Nat} (h1 : 1 ≤ w) (he : e < 2 ^ w) : normE w e < 2 ^ w ∧ normE w e % 2 = 0 := by
  obtain ⟨v, rfl⟩ : ∃ v, w = v + 1 := ⟨w - 1, by omega⟩
  have hp : 2 ^ (v + 1) = 2 * 2 ^ v := by rw [Nat.pow_succ, Nat.mul_comm]
  unfold normE
  split <;> omega

theorem norm_on {w e a b : Nat} {l c : List Nat} (hl : l.length = w) (hc : c.length = w) (he : e < 2 ^ w) (hs : a * l.sum = b * c.sum) (h : a * onN l (normE w e) = b * onN c (normE w e)) : a * onN l e = b * onN c e := by
  unfold normE at h
  split at h
  · have h1 := onN_not l e (by rw [hl]; exact he)
    have h2 := onN_not c e (by rw [hc]; exact he)
    rw [hl] at h1
    rw [hc] at h2
    rw [← h1, ← h2, Nat.mul_add, Nat.mul_add] at hs
    omega
  · exact h

theorem norm_mod {w e : Nat} {l : List Nat} (hl : l.length = w) (he : e < 2 ^ w) (hs : l.sum % 6 = 0) (h : onN l e % 6 = 0) : onN l (normE w e) % 6 = 0 := by
  unfold normE
  split
  · have h1 := onN_not l e (by rw [hl]; exact he)
    rw [hl] at h1
    omega
  · exact h

theorem unit_three {w : Nat} (h1 : 1 ≤ w) (h4 : w ≤ 4) {l : List Nat} (hl : l ∈ lay w 36) {e1 e2 e3 : Nat} (b1 : e1 < 2 ^ w) (b2 : e2 < 2 ^ w) (b3 : e3 < 2 ^ w)
    (m1 : onN l e1 % 6 = 0) (m2 : onN l e2 % 6 = 0) (m3 : onN l e3 % 6 = 0) : ∃ c ∈ lay w 12, onN l e1 = 3 * onN c e1 ∧ onN l e2 = 3 * onN c e2 ∧ onN l e3 = 3 * onN c e3 := by
  obtain ⟨v, rfl⟩ : ∃ v, w = v + 1 := ⟨w - 1, by omega⟩
  obtain ⟨hlen, hsum⟩ := (mem_lay _ _ _).1 hl
  have hlin : ∀ x ∈ l, x = 6 * (x / 6) + 1 * (x % 6) := fun x _ => by omega
  have hon := onN_lin l (· / 6) (· % 6) 6 1 hlin
  have hsm := sum_lin l (· / 6) (· % 6) 6 1 hlin
  have hrl : (l.map (· % 6)).length = v + 1 := by simp [hlen]
  have hdl : (l.map (· / 6)).length = v + 1 := by simp [hlen]
  have hrt : l.map (· % 6) ∈ tup (v + 1) := by
    have := tup_mem (l.map (· % 6)) (fun x hx => by obtain ⟨y, -, rfl⟩ := List.mem_map.1 hx; show y % 6 < 6; omega)
    rwa [hrl] at this
  have hu := unit_of h1 h4 hrt
  generalize hr : l.map (· % 6) = r at *
  generalize hd : l.map (· / 6) = d at *
  have hr6 : r.sum % 6 = 0 := by omega
  unfold unitB at hu
  rw [hr6] at hu
  simp only [beq_self_eq_true, Bool.not_true, Bool.false_or, List.all_eq_true] at hu
  have hmem : ∀ e, e < 2 ^ (v + 1) → onN l e % 6 = 0 → normE (v + 1) e ∈ evs (v + 1) r := by
    intro e he hm
    obtain ⟨n1, n2⟩ := norm_even h1 he
    have n3 := norm_mod hlen he (by omega) hm
    rw [hon] at n3
    unfold evs
    rw [List.mem_filter, List.mem_range]
    refine ⟨n1, ?_⟩
    simp only [Bool.and_eq_true, beq_iff_eq]
    exact ⟨n2, by omega⟩
  have ht := hu _ (hmem e1 b1 m1) _ (hmem e2 b2 m2) _ (hmem e3 b3 m3)
  obtain ⟨c, hc, hcc⟩ := List.any_eq_true.1 ht
  simp only [Bool.and_eq_true, beq_iff_eq] at hcc
  obtain ⟨hcl, hcs⟩ := (mem_lay _ _ _).1 hc
  obtain ⟨f1, f2, f3⟩ := two1_facts d c (by omega)
  have hsum2 : 1 * l.sum = 3 * (two1 d c).sum := by omega
  have key : ∀ e, e < 2 ^ (v + 1) → onN c (normE (v + 1) e) * 3 = onN r (normE (v + 1) e) → onN l e = 3 * onN (two1 d c) e := by
    intro e he hk
    have := norm_on (a := 1) (b := 3) hlen (by omega) he hsum2 (by rw [hon, f3]; omega)
    omega
  refine ⟨two1 d c, (mem_lay _ _ _).2 ⟨by omega, by omega⟩, key e1 b1 hcc.1.1, key e2 b2 hcc.1.2, key e3 b3 hcc.2⟩

theorem ev_nat {w : Nat} {q : Qt} (h : qokB (w : Int) q = true) : ∃ e : Nat, q.1 = (e : Int) ∧ e < 2 ^ w := by
  obtain ⟨h1, h2, h3, h4⟩ := (evB_iff _ _).1 ((qokB_iff _ _).1 h).1
  refine ⟨q.1.toNat, by omega, ?_⟩
  unfold allI at h4
  rw [Int.toNat_natCast] at h4
  have : ((2 ^ w : Nat) : Int) = 2 ^ w := by simp
  omega

theorem unit_book {w : Nat} {qs : List Qt} (hb : bokB (w : Int) qs = true) {l : List Nat} (hl : l ∈ lay w 36) (hf : fitI (natL l) qs = true) : ∃ c ∈ lay w 12, ∀ q ∈ qs, onI (natL c) q.1 * 3 = 6 * q.2 := by
  obtain ⟨⟨w1, w4⟩, hq3, hq⟩ := (bokB_iff _ _).1 hb
  have h1 : 1 ≤ w := by omega
  have h4 : w ≤ 4 := by omega
  have hz : onN l 0 % 6 = 0 := by
    have : ∀ l : List Nat, onN l 0 = 0 := fun l => by
      induction l with
      | nil => rfl
      | cons x l ih => simp [onN, ih]
    rw [this]
  have hp : 0 < 2 ^ w := Nat.two_pow_pos w
  have hone : ∀ q ∈ qs, ∃ e : Nat, q.1 = (e : Int) ∧ e < 2 ^ w ∧ (onN l e : Int) = 6 * q.2 ∧ onN l e % 6 = 0 := by
    intro q hqm
    obtain ⟨e, he, hlt⟩ := ev_nat (hq q hqm)
    have := (fitI_iff _ _).1 hf q hqm
    rw [he, onN_cast] at this
    have hp := ((qokB_iff _ _).1 (hq q hqm)).2
    exact ⟨e, he, hlt, this, by omega⟩
  have fin : ∀ (c : List Nat) (q : Qt) (e : Nat), q.1 = (e : Int) → (onN l e : Int) = 6 * q.2 → onN l e = 3 * onN c e → onI (natL c) q.1 * 3 = 6 * q.2 := by
    intro c q e he h6 h3
    rw [he, onN_cast]; omega
  match qs, hq3, hone with
  | [], _, _ =>
    obtain ⟨c, hc, -⟩ := unit_three h1 h4 hl hp hp hp hz hz hz
    exact ⟨c, hc, fun q h => by cases h⟩
  | [q1], _, ho =>
    obtain ⟨e1, a1, b1, c1, d1⟩ := ho q1 (by simp)
    obtain ⟨c, hc, k1, -, -⟩ := unit_three h1 h4 hl b1 hp hp d1 hz hz
    refine ⟨c, hc, fun q h => ?_⟩
    obtain rfl : q = q1 := by simpa using h
    exact fin c q e1 a1 c1 k1
  | [q1, q2], _, ho =>
    obtain ⟨e1, a1, b1, c1, d1⟩ := ho q1 (by simp)
    obtain ⟨e2, a2, b2, c2, d2⟩ := ho q2 (by simp)
    obtain ⟨c, hc, k1, k2, -⟩ := unit_three h1 h4 hl b1 b2 hp d1 d2 hz
    refine ⟨c, hc, fun q h => ?_⟩
    have h : q = q1 ∨ q = q2 := by simpa using h
    rcases h with rfl | rfl
    · exact fin c q e1 a1 c1 k1
    · exact fin c q e2 a2 c2 k2
  | [q1, q2, q3], _, ho =>
    obtain ⟨e1, a1, b1, c1, d1⟩ := ho q1 (by simp)
    obtain ⟨e2, a2, b2, c2, d2⟩ := ho q2 (by simp)
    obtain ⟨e3, a3, b3, c3, d3⟩ := ho q3 (by simp)
    obtain ⟨c, hc, k1, k2, k3⟩ := unit_three h1 h4 hl b1 b2 b3 d1 d2 d3
    refine ⟨c, hc, fun q h => ?_⟩
    have h : q = q1 ∨ q = q2 ∨ q = q3 := by simpa using h
    rcases h with rfl | rfl | rfl
    · exact fin c q e1 a1 c1 k1
    · exact fin c q e2 a2 c2 k2
    · exact fin c q e3 a3 c3 k3
  | _ :: _ :: _ :: _ :: _, h3, _ => simp at h3

def anyFit (w : Nat) (qs : List Qt) : Bool := (lay w 36).any fun l => fitI (natL l) qs

def anyUnit (w u : Nat) (qs : List Qt) : Bool := (lay w (36 / u)).any fun c => qs.all fun q => onI (natL c) q.1 * u * 6 == q.2 * 36

theorem onI_scale (c : List Nat) (u : Nat) (e : Int) : onI (natL (c.map (u * ·))) e = u * onI (natL c) e := by
  induction c generalizing e with
  | nil => simp [natL, onI]
  | cons x c ih =>
    show e % 2 * ((u * x : Nat) : Int) + onI (natL (c.map (u * ·))) (e / 2) = u * (e % 2 * (x : Int) + onI (natL c) (e / 2))
    rw [ih]
    rcases Int.emod_two_eq e with h | h <;> rw [h]
    · simp
    · rw [Int.one_mul, Int.one_mul, Int.mul_add]; rfl

theorem sum_scale (c : List Nat) (u : Nat) : (c.map (u * ·)).sum = u * c.sum := by
  induction c with
  | nil => simp
  | cons x c ih => simp [ih, Nat.mul_add]

theorem unit_fit {w u : Nat} {qs : List Qt} (h1 : 1 ≤ w) (hu : u * (36 / u) = 36) (h : anyUnit w u qs = true) : anyFit w qs = true := by
  obtain ⟨v, rfl⟩ : ∃ v, w = v + 1 := ⟨w - 1, by omega⟩
  obtain ⟨c, hc, hf⟩ := List.any_eq_true.1 h
  obtain ⟨hl, hs⟩ := (mem_lay _ _ _).1 hc
  refine List.any_eq_true.2 ⟨c.map (u * ·), (mem_lay _ _ _).2 ⟨by simp [hl], by rw [sum_scale, hs, hu]⟩, ?_⟩
  rw [fitI_iff]
  intro q hq
  have := List.all_eq_true.1 hf q hq
  rw [beq_iff_eq] at this
  rw [onI_scale, Int.mul_comm]; omega

theorem fair_units {w : Nat} {qs : List Qt} (hb : bokB (w : Int) qs = true) : (anyUnit w 6 qs || (anyUnit w 3 qs || anyUnit w 2 qs)) = anyFit w qs := by
  have h1 : 1 ≤ w := by have := ((bokB_iff _ _).1 hb).1; omega
  rw [Bool.eq_iff_iff]
  simp only [Bool.or_eq_true]
  constructor
  · rintro (h | h | h)
    · exact unit_fit h1 (by decide) h
    · exact unit_fit h1 (by decide) h
    · exact unit_fit h1 (by decide) h
  · intro h
    obtain ⟨l, hl, hf⟩ := List.any_eq_true.1 h
    obtain ⟨c, hc, hcc⟩ := unit_book hb hl hf
    refine .inr (.inl (List.any_eq_true.2 ⟨c, hc, List.all_eq_true.2 fun q hq => ?_⟩))
    have := hcc q hq
    rw [beq_iff_eq]
    show onI (natL c) q.1 * (3 : Int) * 6 = q.2 * 36
    omega

end Go.Proofs.Ytebebcomhdjihaa

namespace Go.Proofs.Ytebebcomhdjihaa
set_option linter.unusedVariables false

def firstFit (w : Nat) (qs : List Qt) : Option (List Nat) := (lay w 36).find? fun l => fitI (natL l) qs

theorem first_any (w : Nat) (qs : List Qt) : (firstFit w qs).isSome = anyFit w qs := by
  unfold firstFit anyFit
  rw [Bool.eq_iff_iff, List.find?_isSome, List.any_eq_true]

end Go.Proofs.Ytebebcomhdjihaa
