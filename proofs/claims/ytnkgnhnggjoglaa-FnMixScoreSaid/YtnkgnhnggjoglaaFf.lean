/- What is drawn of scores: l20Seen, l20Reports, DrawScoreOf, DrawTotalScore, DrawSeenMeasure, DrawBestReport, DrawExpectedScore, DrawFarApart. Conditions: a row of bytes, or a reader. -/
import Derived.Test.YtnkgnhnggjoglaaFg
import Derived.Test.YtnkgnhnggjoglaaFd
import Derived.Maps.AppendAt
import Derived.Laws.AppendOwnNone
namespace Go.Proofs.Ytnkgnhnggjoglaa
open Go.RowKit
set_option linter.unusedVariables false

/-- every block of ints stays -/
def StayI (w w' : World) : Prop := w.heap.size ≤ w'.heap.size ∧ ∀ (g : Nat) (cur : Array Value), w.heap[g]? = some (Obj.cells cur 3 (0, 0)) → w'.heap[g]? = w.heap[g]?

theorem StayI.trans {w w1 w2 : World} (h : StayI w w1) (k : StayI w1 w2) : StayI w w2 :=
  ⟨Nat.le_trans h.1 k.1, fun g cur hg => (k.2 g cur ((h.2 g cur hg).trans hg)).trans (h.2 g cur hg)⟩

theorem StayI.grown {w w' : World} {row : Option Nat} (hg : w.grownBy w' row) (hr : ∀ (g : Nat) (cur : Array Value), row = some g → w.heap[g]? ≠ some (Obj.cells cur 3 (0, 0))) : StayI w w' :=
  ⟨hg.size, fun g cur h => hg.block g (Array.getElem?_eq_some_iff.1 h).1 (fun e => hr g cur e.symm h)⟩

theorem StayI.below {w w' : World} (h : Below w.heap.size w w') : StayI w w' := ⟨h.size, fun g cur hg => h.block g (Array.getElem?_eq_some_iff.1 hg).1⟩

/-- the reader is no block of ints -/
theorem rd_noI {w : World} {R Q : Nat} (hr : Rd w R Q) (cur : Array Value) : w.heap[R]? ≠ some (Obj.cells cur 3 (0, 0)) := by
  obtain ⟨A, n, cap, p, h1, -⟩ := hr
  unfold Blk at h1
  intro hg
  rw [h1] at hg
  injection hg with hg
  injection hg with h2 h3
  exact absurd h3 (by decide)

theorem StayI.reader {w w' : World} {R Q : Nat} (hr : Rd w R Q) (k : w.grownBy w' (some R)) : StayI w w' := StayI.grown k (fun g cur e => by injection e with e; subst e; exact rd_noI hr cur)

theorem IOwn.stay {w w' : World} {base : Nat} {u : Value} {xs : List Int} (h : IOwn w base u xs) (k : StayI w w') : IOwn w' base u xs := by
  refine ⟨h.1, ?_⟩
  rcases h.2 with hn | ⟨g, cap, cur, rfl, hb, hg, rest⟩
  · exact .inl hn
  · exact .inr ⟨g, cap, cur, rfl, hb, (k.2 g cur hg).trans hg, rest⟩

/-- the row of slices v holds us -/
abbrev VOwn (w : World) (base : Nat) (v : Value) (us : List Value) : Prop := w.ownsRow base 23 1 v us.length us

theorem VOwn.stay {w w' : World} {base : Nat} {v : Value} {us : List Value} (h : VOwn w base v us) (k : w.grownBy w' v.ownBlock) : StayI w w' := by
  refine StayI.grown k (fun g cur e hg => ?_)
  rcases h.2 with ⟨rfl, -⟩ | ⟨g', cap, cur', rfl, hb, hg', rest⟩
  · cases e
  · injection e with e
    subst e
    rw [hg'] at hg
    injection hg with hg
    injection hg with h2 h3
    exact absurd h3 (by decide)

/-- each slice is a row of ints -/
def RIn (w : World) (base : Nat) (us : List Value) (rs : List (List Int)) : Prop := us.length = rs.length ∧ ∀ (i : Nat) (u : Value) (r : List Int), us[i]? = some u → rs[i]? = some r → IOwn w base u r

theorem RIn.stay {w w' : World} {base : Nat} {us : List Value} {rs : List (List Int)} (h : RIn w base us rs) (k : StayI w w') : RIn w' base us rs := ⟨h.1, fun i u r hu hr => (h.2 i u r hu hr).stay k⟩

theorem RIn.nil (w : World) (base : Nat) : RIn w base [] [] := ⟨rfl, fun i u r hu _ => by simp at hu⟩

theorem RIn.push {w : World} {base : Nat} {us : List Value} {rs : List (List Int)} {u : Value} {r : List Int} (h : RIn w base us rs) (k : IOwn w base u r) : RIn w base (us ++ [u]) (rs ++ [r]) := by
  refine ⟨by simp [h.1], fun i x X hx hX => ?_⟩
  rcases Nat.lt_or_ge i us.length with hi | hi
  · rw [List.getElem?_append_left hi] at hx
    rw [List.getElem?_append_left (by rw [← h.1]; exact hi)] at hX
    exact h.2 i x X hx hX
  · rw [List.getElem?_append_right hi] at hx
    rw [List.getElem?_append_right (by rw [← h.1]; exact hi), ← h.1] at hX
    obtain ⟨j, hj⟩ : ∃ j, i - us.length = j := ⟨_, rfl⟩
    rw [hj] at hx hX
    match j, hx, hX with
    | 0, hx, hX =>
      obtain rfl := Option.some.inj hx
      obtain rfl := Option.some.inj hX
      exact k
    | j + 1, hx, hX => simp at hx

theorem srd_of {w : World} {base : Nat} {v : Value} {us : List Value} {rs : List (List Int)} (h : VOwn w base v us) (k : RIn w base us rs) : SRd w v rs := by
  have hg : GOwn 23 1 sV w base v us := by unfold GOwn; rw [flat_sV]; exact h
  exact ⟨us, k.1, hg.rd sV_len, fun i u r hu hr => (k.2 i u r hu hr).rd⟩

/-- seen worlds that were drawn -/
def SeenPost (w : World) (R P : Nat) (e : Ending) (w' : World) : Prop := ∃ v xs, e = .returned v ∧ GamRel w R P v xs w' ∧ xs.length ≤ 24

def manyL : List Int := [1, 2, 3, 4, 6, 9, 12, 5]

theorem many_at {j : Nat} (h : j < 8) : ∃ M, manyL[j]? = some M ∧ 1 ≤ M ∧ M ≤ 12 := by
  obtain rfl | rfl | rfl | rfl | rfl | rfl | rfl | rfl : j = 0 ∨ j = 1 ∨ j = 2 ∨ j = 3 ∨ j = 4 ∨ j = 5 ∨ j = 6 ∨ j = 7 := by omega
  all_goals exact ⟨_, rfl, by decide, by decide⟩

set_option maxRecDepth 100000 in
set_option maxHeartbeats 8000000 in
theorem l20Seen_any (w : World) (R P : Nat) (n : Int) (hP : P ≤ 1000) (h : Rd w R P) (h1 : 1 ≤ n) (h2 : n ≤ 4) :
    Calls Try.prog 73 #[.pointer (some ⟨R, 0, none⟩), .int .i64 n] w (SeenPost w R (P + 100)) := by
  obtain ⟨i0, hi, hz0, hz1, hz2⟩ := info_parts Try_intinfo
  have hR := h.lt
  have G0 : GamRel w R P (.slice (some ⟨w.heap.size, 0, none⟩) 0 0) [] (w.alloc (.cells #[] 3)) := GamRel.start h
  have G1 := Lib.hid (G0.alloc (.cells #[.int .i64 1, .int .i64 2, .int .i64 3, .int .i64 4, .int .i64 6, .int .i64 9, .int .i64 12, .int .i64 5] 3))
  have KB := Lib.hid (blk_alloc (w.alloc (.cells #[] 3)) #[.int .i64 1, .int .i64 2, .int .i64 3, .int .i64 4, .int .i64 6, .int .i64 9, .int .i64 12, .int .i64 5] 3)
  rw [World.size_alloc] at KB
  have HNE : Hid (w.heap.size + 1 ≠ R) := Lib.hid (by omega)
  clear G0 h
  go_enter Try.func73, Try.ntmps73
  go_wp2_with fail
  refine (pick_any _ R P _ (by omega) G1.out.1).mono ?_
  rintro e w4 ⟨v1, rfl, ⟨p1, p2, -⟩, k1⟩
  have p2 := p2 (by decide)
  have G4 := Lib.hid (G1.out.picked k1)
  obtain ⟨j, rfl⟩ : ∃ j : Nat, v1 = j := ⟨v1.toNat, by omega⟩
  have hj8 : j < 8 := by omega
  obtain ⟨M, hM, m1, m12⟩ := many_at hj8
  have hcM : w4.cell? ⟨w.heap.size + 1, j, none⟩ = some (.int .i64 M) := by
    have hb := KB.out.picked k1 HNE.out
    obtain rfl | rfl | rfl | rfl | rfl | rfl | rfl | rfl : j = 0 ∨ j = 1 ∨ j = 2 ∨ j = 3 ∨ j = 4 ∨ j = 5 ∨ j = 6 ∨ j = 7 := by omega
    all_goals
      obtain rfl := Option.some.inj hM
      exact hb.cell _
  clear k1 G1 KB HNE hM
  go_wp2_with fail
  go_loopw [5, 7] (fun p c wr => ∃ (k Q : Nat) (xs : List Int), c = .int .i64 k ∧ k ≤ 24 ∧ Q ≤ P + 1 + 3 * k ∧ Hid (xs.length = k) ∧ Hid (GamRel w R Q p xs wr)) (fun _ c _ => 24 - (intOf c).toNat)
  case atStart => exact ⟨0, P + 1, [], rfl, Nat.zero_le _, by omega, Lib.hid rfl, G4⟩
  case round =>
    obtain ⟨k, Q, xs, rfl, hk, hQ, HL, HR⟩ := hrel
    clear G4 hcM
    go_wp2_with fail
    refine (pick_any _ R Q _ (by omega) HR.out.1).mono ?_
    rintro e w5 ⟨v2, rfl, ⟨p3, p4, -⟩, k1⟩
    have p4 := p4 (by decide)
    have H5 := Lib.hid (HR.out.picked k1)
    clear k1 HR
    by_cases hlt : (k : Int) < M + v2 / 59 * 12
    · have hk24 : k + 1 ≤ 24 := by omega
      go_wp2_with fail
      refine (pick_any _ R (Q + 1) _ (by omega) H5.out.1).mono ?_
      rintro e w6 ⟨v3, rfl, ⟨p5, p6, -⟩, k1⟩
      have p6 := p6 (by omega)
      have H6 := Lib.hid (H5.out.picked k1)
      clear k1 H5
      go_wp2_with fail
      refine (pick_any _ R (Q + 2) _ (by omega) H6.out.1).mono ?_
      rintro e w7 ⟨v4, rfl, ⟨p7, p8, -⟩, k1⟩
      have p8 := p8 (by decide)
      have H7 := Lib.hid (H6.out.picked k1)
      clear k1 H6
      have hown0 := H7.out.2.1
      unfold IOwn at hown0
      have hown := Lib.hid (World.ownsRow.alloc (w := w7) hown0 (.cells #[.int .i64 (v3 + v4 / 199 * 4)] 3))
      have hsz := H7.out.2.2.1.size
      have hlen : xs.length ≤ 24 := by have := HL.out; omega
      clear hown0
      go_wp2_with (at_builtin; refine wpList_append_own _ rfl _ _ 23 rfl w.heap.size 3 i0 (.int .i64 0) 1 8 Try.underlying23 hi hz0 hz1 hz2 rfl (by decide) _ _ _ rfl hown.out ⟨w7.heap.size, 0, none⟩ 1 1 [.int .i64 (v3 + v4 / 199 * 4)] rfl rfl ?c1 one_int ?c3 ?c4 ?c5 ?_)
      case c1 => exact one_new w7 _ _
      case c3 => unfold maxLen; omega
      case c4 => omega
      case c5 => simp; omega
      intro v' w' hown' hgrow _
      have HL2 := Lib.hid (H7.out.append (show IOwn w' w.heap.size v' (xs ++ [v3 + v4 / 199 * 4]) from by simpa [IOwn] using hown') (grown_after (w := w7) ((Below.refl _ w7).alloc (Nat.le_refl _) _) hgrow))
      clear hown' hgrow hown hlen
      go_wp2_with fail
      go_roundw
      case rel => exact ⟨k + 1, Q + 3, xs ++ [v3 + v4 / 199 * 4], by go_num, hk24, by omega, Lib.hid (by have := HL.out; simp; omega), HL2⟩
      case measure => simp [intOf]; omega
    · have hd : decide ((k : Int) < M + v2 / 59 * 12) = false := decide_eq_false hlt
      go_wp2_with fail
      go_ret
      exact ⟨_, _, rfl, H5.out.mono (by omega), by have := HL.out; omega⟩

set_option maxHeartbeats 4000000 in
theorem drawScoreOf_any (w : World) (a : Option Addr) (len cap : Nat) (zs : List Int) (h : IsRowC .u8 w a len cap zs) :
    Calls Try.prog 18 #[.slice a len cap] w (DrawMeaEv w) := by
  go_enter Try.func18, Try.ntmps18
  go_wp2_with fail
  refine (open_at _ w.heap.size a len cap zs rfl h).mono ?_
  rintro e w1 ⟨rfl, d1, b1, s1⟩
  have B1 := Lib.hid b1
  have HLT : Hid (w.heap.size < w1.heap.size) := Lib.hid d1.2.2
  go_wp2_with fail
  refine (pick_any _ w.heap.size 0 _ (by decide) d1.1).mono ?_
  rintro e w2 ⟨v1, rfl, ⟨p1, p2, -⟩, k1⟩
  have p2 := p2 (by decide)
  have D2 := Lib.hid (d1.picked k1)
  clear d1 b1 h k1
  go_wp2_with fail
  refine (l20Measure_any _ w.heap.size 1 _ _ (by decide) D2.out.1 (by omega) (by omega) (by decide) (by decide)).mono ?_
  rintro e w3 ⟨v, xs, rfl, h3, hl, ha⟩
  have H3 := Lib.hid h3
  clear h3 ha
  go_wp2_with fail
  refine (pick_any _ w.heap.size 9 _ (by decide) H3.out.1).mono ?_
  rintro e w4 ⟨v2, rfl, ⟨p3, p4, -⟩, k1⟩
  have p4 := p4 (by omega)
  have H4 := Lib.hid (H3.out.picked k1)
  clear k1
  go_wp2_with fail
  refine (pick_any _ w.heap.size 10 _ (by decide) H4.out.1).mono ?_
  rintro e w5 ⟨v3, rfl, ⟨p5, p6, -⟩, k1⟩
  have p6 := p6 (by decide)
  have H5 := Lib.hid (H4.out.picked k1)
  clear k1
  have B2 : Below w.heap.size w w2 := below_dr B1.out D2.out (Nat.le_refl _)
  have B5 := Lib.hid (B2.grown H5.out.2.2.1 B2.size (fun g hg => by injection hg with hg; omega))
  have O5 := Lib.hid (H5.out.2.1.base (base' := w.heap.size) B2.size)
  clear B2 H3 H4 H5
  go_wp2_with fail
  go_ret2
  exact ⟨_, _, _, rfl, O5.out, hl, B5.out⟩

/-- a number of worlds, and worlds that turned out -/
def DrawNumI (w : World) (e : Ending) (w' : World) : Prop := ∃ (n : Int) (v : Value) (xs : List Int), e = .returned (.tuple #[.int .i64 n, v]) ∧ 1 ≤ n ∧ n ≤ 4 ∧ IOwn w' w.heap.size v xs ∧ xs.length ≤ 24 ∧ Below w.heap.size w w'

set_option maxHeartbeats 4000000 in
theorem drawSeenMeasure_any (w : World) (a : Option Addr) (len cap : Nat) (zs : List Int) (h : IsRowC .u8 w a len cap zs) :
    Calls Try.prog 36 #[.slice a len cap] w (DrawNumI w) := by
  go_enter Try.func36, Try.ntmps36
  go_wp2_with fail
  refine (open_at _ w.heap.size a len cap zs rfl h).mono ?_
  rintro e w1 ⟨rfl, d1, b1, s1⟩
  have B1 := Lib.hid b1
  have HLT : Hid (w.heap.size < w1.heap.size) := Lib.hid d1.2.2
  go_wp2_with fail
  refine (pick_any _ w.heap.size 0 _ (by decide) d1.1).mono ?_
  rintro e w2 ⟨v1, rfl, ⟨p1, p2, -⟩, k1⟩
  have p2 := p2 (by decide)
  have D2 := Lib.hid (d1.picked k1)
  clear d1 b1 h k1
  go_wp2_with fail
  refine (l20Seen_any _ w.heap.size 1 _ (by decide) D2.out.1 (by omega) (by omega)).mono ?_
  rintro e w3 ⟨v, xs, rfl, h3, hl⟩
  have B2 : Below w.heap.size w w2 := below_dr B1.out D2.out (Nat.le_refl _)
  have B5 := Lib.hid (B2.grown h3.2.2.1 B2.size (fun g hg => by injection hg with hg; omega))
  have O5 := Lib.hid (h3.2.1.base (base' := w.heap.size) B2.size)
  clear B2 h3
  go_wp2_with fail
  go_ret2
  exact ⟨_, _, _, rfl, by omega, by omega, O5.out, hl, B5.out⟩

/-- a measure, and worlds that turned out -/
def DrawMeaI (w : World) (e : Ending) (w' : World) : Prop := ∃ (v u : Value) (xs ys : List Int), e = .returned (.tuple #[v, u]) ∧ IOwn w' w.heap.size v xs ∧ IOwn w' w.heap.size u ys ∧ xs.length ≤ 4 ∧ ys.length ≤ 24 ∧ Below w.heap.size w w'

set_option maxHeartbeats 4000000 in
theorem drawTotalScore_any (w : World) (a : Option Addr) (len cap : Nat) (zs : List Int) (h : IsRowC .u8 w a len cap zs) :
    Calls Try.prog 33 #[.slice a len cap] w (DrawMeaI w) := by
  go_enter Try.func33, Try.ntmps33
  go_wp2_with fail
  refine (open_at _ w.heap.size a len cap zs rfl h).mono ?_
  rintro e w1 ⟨rfl, d1, b1, s1⟩
  have B1 := Lib.hid b1
  have HLT : Hid (w.heap.size < w1.heap.size) := Lib.hid d1.2.2
  go_wp2_with fail
  refine (pick_any _ w.heap.size 0 _ (by decide) d1.1).mono ?_
  rintro e w2 ⟨v1, rfl, ⟨p1, p2, -⟩, k1⟩
  have p2 := p2 (by decide)
  have D2 := Lib.hid (d1.picked k1)
  clear d1 b1 h k1
  go_wp2_with fail
  refine (l20Measure_any _ w.heap.size 1 _ _ (by decide) D2.out.1 (by omega) (by omega) (by decide) (by decide)).mono ?_
  rintro e w3 ⟨v, xs, rfl, h3, hl, ha⟩
  have H3 := Lib.hid h3
  clear h3 ha
  go_wp2_with fail
  refine (l20Seen_any _ w.heap.size 9 _ (by decide) H3.out.1 (by omega) (by omega)).mono ?_
  rintro e w4 ⟨u, ys, rfl, h4, hl2⟩
  have B2 : Below w.heap.size w w2 := below_dr B1.out D2.out (Nat.le_refl _)
  have B3 : Below w.heap.size w w3 := B2.grown H3.out.2.2.1 B2.size (fun g hg => by injection hg with hg; omega)
  have B4 := Lib.hid (B3.grown h4.2.2.1 B3.size (fun g hg => by injection hg with hg; omega))
  have s2 : w1.heap.size ≤ w2.heap.size := D2.out.size
  have O3 := Lib.hid ((far_grownI h4.2.2.1 H3.out.2.1 (by have := HLT.out; omega)).base (base' := w.heap.size) B2.size)
  have O4 := Lib.hid (h4.2.1.base (base' := w.heap.size) B3.size)
  clear B2 B3 h4 H3 D2 B1 s2 HLT
  go_wp2_with fail
  go_ret2
  exact ⟨_, _, _, _, rfl, O3.out, O4.out, hl, hl2, B4.out⟩

set_option maxHeartbeats 1000000 in
theorem drawExpectedScore_any (w : World) (a : Option Addr) (len cap : Nat) (zs : List Int) (h : IsRowC .u8 w a len cap zs) :
    Calls Try.prog 22 #[.slice a len cap] w (DrawTwoR w) := by
  go_enter Try.func22, Try.ntmps22
  go_wp2_with fail
  refine (drawMixedMeasure_any _ a len cap zs h).mono ?_
  rintro e w' ⟨v, u, xs, ys, rfl, hh⟩
  go_wp2_with fail
  go_ret2
  exact ⟨v, u, xs, ys, rfl, hh⟩

set_option maxHeartbeats 1000000 in
theorem drawFarApart_any (w : World) (a : Option Addr) (len cap : Nat) (zs : List Int) (h : IsRowC .u8 w a len cap zs) :
    Calls Try.prog 26 #[.slice a len cap] w (DrawTwoR w) := by
  go_enter Try.func26, Try.ntmps26
  go_wp2_with fail
  refine (drawMixedMeasure_any _ a len cap zs h).mono ?_
  rintro e w' ⟨v, u, xs, ys, rfl, hh⟩
  go_wp2_with fail
  go_ret2
  exact ⟨v, u, xs, ys, rfl, hh⟩

/-- the reader R, a measure, and a row of reports, all made behind w -/
def RepRel (w : World) (R Q : Nat) (tv : Value) (t : List Int) (v : Value) (rs : List (List Int)) (wr : World) : Prop :=
  Rd wr R Q ∧ IOwn wr w.heap.size tv t ∧ (∃ us, VOwn wr w.heap.size v us ∧ RIn wr w.heap.size us rs) ∧ w.grownBy wr (some R) ∧ R < w.heap.size

theorem RepRel.start {w wr : World} {R Q : Nat} {tv : Value} {t : List Int} (h : GamRel w R Q tv t wr) : RepRel w R Q tv t (.slice (some ⟨wr.heap.size, 0, none⟩) 0 0) [] (wr.alloc (.cells #[] 23)) := by
  obtain ⟨h1, h2, h3, h4⟩ := h
  refine ⟨h1.keep (by simp) (fun b hb => Below.heap_alloc wr _ b hb), h2.keep (SameAt.grow rfl), ⟨[], World.ownsRow_lit wr #[] 0 h3.size (by unfold maxLen; omega) rfl, RIn.nil _ _⟩, grow_trans h3 (World.grownBy_alloc _ _ _), h4⟩

theorem RepRel.picked {w wr w' : World} {R P Q : Nat} {tv v : Value} {t : List Int} {rs : List (List Int)} (h : RepRel w R P tv t v rs wr) (k : Picked R Q wr w') : RepRel w R Q tv t v rs w' := by
  obtain ⟨h1, h2, ⟨us, h5, h6⟩, h3, h4⟩ := h
  have hs := StayI.reader h1 k.grown
  refine ⟨k.rd, h2.stay hs, ⟨us, ?_, h6.stay hs⟩, grow_trans h3 k.grown, h4⟩
  exact World.ownsRow.kept h5 k.grown (by
    rcases hv : v.ownBlock with _ | g
    · exact .inl rfl
    · refine .inr fun e => ?_
      injection e with e
      have := (World.ownsRow.lt h5 g hv).1
      omega)

theorem RepRel.mono {w wr : World} {R P Q : Nat} {tv v : Value} {t : List Int} {rs : List (List Int)} (h : RepRel w R P tv t v rs wr) (hPQ : P ≤ Q) : RepRel w R Q tv t v rs wr := ⟨h.1.mono hPQ, h.2⟩

/-- a drawn measure u behind wr: all stays, and it may be laid to the reports -/
theorem RepRel.drawn {w wr w' : World} {R P Q : Nat} {tv v u : Value} {t xs : List Int} {rs : List (List Int)} (h : RepRel w R P tv t v rs wr) (k : GamRel wr R Q u xs w') : RepRel w R Q tv t v rs w' ∧ IOwn w' w.heap.size u xs := by
  obtain ⟨h1, h2, ⟨us, h5, h6⟩, h3, h4⟩ := h
  have hs := StayI.reader h1 k.2.2.1
  refine ⟨⟨k.1, h2.stay hs, ⟨us, ?_, h6.stay hs⟩, grow_trans h3 k.2.2.1, h4⟩, k.2.1.base h3.size⟩
  exact World.ownsRow.kept h5 k.2.2.1 (by
    rcases hv : v.ownBlock with _ | g
    · exact .inl rfl
    · refine .inr fun e => ?_
      injection e with e
      have := (World.ownsRow.lt h5 g hv).1
      omega)

theorem alloc_b11 (w : World) (o : Obj) : Below w.heap.size w (w.alloc o) := (Below.refl _ _).alloc (Nat.le_refl _) o

theorem wp_app_rows {ops : Array Oper} {rest : List Oper} {o : Oper} {a : Act} {Q : Exit → Act → World → Prop} (hgd : o.guard = none) (s x : Operand)
    (ho : o.op = .call { callee := .builtin .append, args := #[s, x], argTypes := #[35, 35] }) (w : World) (base : Nat) (v : Value) (us : List Value) (A : Option Addr) (n c : Nat)
    (hs : a.eval s = v) (hown : VOwn w base v us) (hx : a.eval x = .slice (some ⟨w.heap.size, 0, none⟩) 1 1)
    (h1 : us.length ≤ 1000000) (hb : base ≤ w.heap.size)
    (h : ∀ v' w', VOwn w' base v' (us ++ [.slice A n c]) → w.grownBy w' v.ownBlock → wpList Try.prog ops Q rest (a.put o.dst v') w') :
    wpList Try.prog ops Q (o :: rest) a (w.alloc (.cells #[.slice A n c] 23)) := by
  obtain ⟨i0, hi, hz0, hz1, hz2⟩ := info_parts Try_rowinfo
  have hown2 : (w.alloc (.cells #[.slice A n c] 23)).ownsRow base 23 1 v us.length us := World.ownsRow.alloc hown _
  refine wpList_append_own_at _ hgd s x 35 ho base 23 i0 (.slice none 0 0) 1 24 Try.underlying35 hi hz0 hz1 hz2 rfl (by decide) v us.length us hs hown2 ⟨w.heap.size, 0, none⟩ 1 1 [.slice A n c] hx rfl (one_new w _ _) (fun u hu => by rw [List.mem_singleton] at hu; subst hu; rfl) (by unfold maxLen; omega) (by omega) (by simp; omega) ?_
  intro v' w' k1 k2 k3 k4
  refine h v' w' ?_ (grown_after ((Below.refl _ w).alloc (Nat.le_refl _) _) k2)
  have e : (us ++ [Value.slice A n c]).length = us.length + 1 := by simp
  unfold VOwn
  rw [e]
  exact k1

theorem RepRel.append {w wr w' : World} {R P : Nat} {tv v v' u : Value} {t r : List Int} {rs : List (List Int)} {us : List Value} (h : RepRel w R P tv t v rs wr) (hv : VOwn wr w.heap.size v us) (hin : RIn wr w.heap.size us rs) (hu : IOwn wr w.heap.size u r)
    (ho : VOwn w' w.heap.size v' (us ++ [u])) (hg : wr.grownBy w' v.ownBlock) : RepRel w R P tv t v' (rs ++ [r]) w' := by
  obtain ⟨h1, h2, -, h3, h4⟩ := h
  have hge := World.ownsRow.lt hv
  have hs := VOwn.stay hv hg
  exact ⟨h1.grown hg (fun g hg' => by have := (hge g hg').1; omega), h2.stay hs, ⟨_, ho, (hin.stay hs).push (hu.stay hs)⟩, grow_far h3 hg (fun g hg' => (hge g hg').1), h4⟩

theorem own_below {w w' : World} {base : Nat} {e : TypeId} {size : Nat} {v : Value} {n : Nat} {xs : List Value} (h : w.ownsRow base e size v n xs) (hb : Below w.heap.size w w') : w'.ownsRow base e size v n xs := by
  refine ⟨h.1, ?_⟩
  rcases h.2 with hn | ⟨g, cap, cur, rfl, hb', hg, rest⟩
  · exact .inl hn
  · exact .inr ⟨g, cap, cur, rfl, hb', (hb.block g (Array.getElem?_eq_some_iff.1 hg).1).trans hg, rest⟩

theorem RepRel.below {w wr w' : World} {R P : Nat} {tv v : Value} {t : List Int} {rs : List (List Int)} (h : RepRel w R P tv t v rs wr) (hb : Below wr.heap.size wr w') : RepRel w R P tv t v rs w' := by
  obtain ⟨h1, h2, ⟨us, h5, h6⟩, h3, h4⟩ := h
  have hs := StayI.below hb
  exact ⟨h1.keep hb.size (fun b hb' => hb.block b hb'), h2.stay hs, ⟨us, own_below h5 hb, h6.stay hs⟩, grow_trans h3 ⟨hb.os, hb.tape, hb.output, hb.size, fun i hi _ => hb.block i hi⟩, h4⟩

/-- a measure and reports that were drawn -/
def RepPost (w : World) (R : Nat) (e : Ending) (w' : World) : Prop := ∃ tv v t rs, e = .returned (.tuple #[tv, v]) ∧ IRd w' tv t ∧ SRd w' v rs ∧ t.length ≤ 4 ∧ rs.length ≤ 5 ∧ (∀ r ∈ rs, r.length ≤ 4) ∧ w.grownBy w' (some R)

theorem RepRel.post {w0 w wr : World} {R P : Nat} {tv v : Value} {t : List Int} {rs : List (List Int)} (h : RepRel w R P tv t v rs wr) (hw : w0.grownBy w (some R)) (h4 : t.length ≤ 4) (h5 : rs.length ≤ 5) (hr : ∀ r ∈ rs, r.length ≤ 4) : RepPost w0 R (.returned (.tuple #[tv, v])) wr := by
  obtain ⟨-, h2, ⟨us, k1, k2⟩, h3, -⟩ := h
  exact ⟨tv, v, t, rs, rfl, h2.rd, srd_of k1 k2, h4, h5, hr, grow_trans hw h3⟩

theorem len_snoc {rs : List (List Int)} {r : List Int} (h : ∀ x ∈ rs, x.length ≤ 4) (hr : r.length ≤ 4) : ∀ x ∈ rs ++ [r], x.length ≤ 4 := by
  intro x hx
  rcases List.mem_append.1 hx with hx | hx
  · exact h x hx
  · rw [List.mem_singleton] at hx; subst hx; exact hr

set_option maxRecDepth 100000 in
set_option maxHeartbeats 8000000 in
theorem l20Reports_any (w : World) (R P : Nat) (hP : P ≤ 1000) (h : Rd w R P) :
    Calls Try.prog 69 #[.pointer (some ⟨R, 0, none⟩)] w (RepPost w R) := by
  go_enter Try.func69, Try.ntmps69
  go_wp2_with fail
  refine (pick_any _ R P _ (by omega) h).mono ?_
  rintro e w2 ⟨v1, rfl, ⟨p1, p2, -⟩, k1⟩
  have p2 := p2 (by decide)
  have HG2 := Lib.hid k1.grown
  have HR2 := Lib.hid k1.rd
  clear h k1
  go_wp2_with fail
  refine (l20Measure_any _ R (P + 1) _ _ (by omega) HR2.out (by omega) (by omega) (by decide) (by decide)).mono ?_
  rintro e w3 ⟨tv, t, rfl, h3, ht4, ha⟩
  have H3 := Lib.hid (RepRel.start h3)
  have HTF : Hid ((tv = .slice none 0 0 ∧ t = []) ∨ ∃ g cap, tv = .slice (some ⟨g, 0, none⟩) t.length cap) := Lib.hid (by
    rcases h3.2.1.2 with ⟨e, h0⟩ | ⟨g, cap, cur, e, -⟩
    · exact .inl ⟨e, List.eq_nil_of_length_eq_zero h0⟩
    · exact .inr ⟨g, cap, e⟩)
  have HT4 := Lib.hid ht4
  clear h3 ha ht4
  go_wp2_with fail
  generalize w3.alloc (.cells #[] 23) = w4 at H3 ⊢
  refine (pick_any _ R _ _ (by omega) H3.out.1).mono ?_
  rintro e w5 ⟨v2, rfl, ⟨p3, p4, -⟩, k1⟩
  have p4 := p4 (by decide)
  obtain ⟨j0, rfl⟩ : ∃ j : Nat, v2 = j := ⟨v2.toNat, by omega⟩
  have H5 := Lib.hid (H3.out.picked k1)
  clear k1 H3
  go_wp2_with fail
  go_loopw [6, 7] (fun p c wr => ∃ (j Q : Nat) (rs : List (List Int)), c = .int .i64 (j : Int) ∧ j ≤ 4 ∧ Q + 8 * j ≤ P + 100 ∧ Hid (rs.length + j ≤ 4) ∧ Hid (∀ r ∈ rs, r.length ≤ 4) ∧ Hid (RepRel w2 R Q tv t p rs wr)) (fun _ c _ => (intOf c).toNat)
  case atStart => exact ⟨j0, _, [], rfl, by omega, by omega, Lib.hid (by simp; omega), Lib.hid (by simp), H5⟩
  case round =>
    obtain ⟨j, Q, rs, rfl, hj, hQ, HL, HR4, HR⟩ := hrel
    clear H5
    by_cases hlt : 0 < j
    · have hlt' : (0 : Int) < (j : Int) := by omega
      obtain ⟨i, rfl⟩ : ∃ i, j = i + 1 := ⟨j - 1, by omega⟩
      have hwi : IntKind.i64.wrap (((i + 1 : Nat) : Int) - 1) = (i : Int) := by rw [IntWalk.i64_in _ (by omega)]; omega
      go_wp2_with fail
      refine (l20Measure_any _ R Q _ _ (by omega) HR.out.1 (by omega) (by omega) (by decide) (by decide)).mono ?_
      rintro e w6 ⟨u, xs, rfl, h6, hl, ha⟩
      obtain ⟨A2, c2, rfl, -, -, -⟩ := id h6.2.1.rd
      obtain ⟨h7, hu⟩ := HR.out.drawn h6
      have H7 := Lib.hid h7
      have HU := Lib.hid hu
      have HLX := Lib.hid hl
      obtain ⟨us, hvo, hin⟩ := h7.2.2.1
      have HVO := Lib.hid hvo
      have HIN := Lib.hid hin
      have hsz := h7.2.2.2.1.size
      have hlus : us.length ≤ 1000000 := by have := hin.1; have := HL.out; omega
      clear h6 h7 hu ha hvo hin hl
      go_wp2_with (at_builtin; refine wp_app_rows rfl _ _ rfl _ w2.heap.size _ us A2 xs.length c2 (by rfl) HVO.out (by rfl) hlus hsz ?_)
      intro v' w' hown' hgrow
      have H8 := Lib.hid (H7.out.append HVO.out HIN.out HU.out hown' hgrow)
      clear hown' hgrow
      go_wp2_with fail
      go_roundw
      case rel => exact ⟨i, Q + 8, rs ++ [xs], rfl, by omega, by omega, Lib.hid (by have := HL.out; simp; omega), Lib.hid (len_snoc HR4.out HLX.out), H8⟩
      case measure => simp [intOf]
    · obtain rfl : j = 0 := by omega
      go_wp2_with fail
      refine (pick_any _ R Q _ (by omega) HR.out.1).mono ?_
      rintro e w6 ⟨v3, rfl, ⟨p5, p6, -⟩, k1⟩
      have p6 := p6 (by decide)
      have H6 := Lib.hid (HR.out.picked k1)
      clear k1 HR
      by_cases h0 : v3 = 0
      · subst h0
        obtain ⟨us, hvo, hin⟩ := H6.out.2.2.1
        have HVO := Lib.hid hvo
        have HIN := Lib.hid hin
        have hsz := H6.out.2.2.2.1.size
        have hlus : us.length ≤ 1000000 := by have := hin.1; have := HL.out; omega
        clear hvo hin
        obtain ⟨i0, hi, hz0, hz1, hz2⟩ := info_parts Try_intinfo
        have HN := Lib.hid (World.ownsRow_lit w6 #[] 0 hsz (e := 3) (size := 1) (by unfold maxLen; omega) rfl)
        rcases HTF.out with ⟨rfl, rfl⟩ | ⟨g, cap, rfl⟩
        · have HV7 := Lib.hid (own_below HVO.out (alloc_b11 w6 (.cells #[] 3)))
          have hsz7 : w2.heap.size ≤ (w6.alloc (.cells #[] 3)).heap.size := by simp; omega
          have R7 := Lib.hid (H6.out.below (alloc_b11 w6 (.cells #[] 3)))
          have HI7 := Lib.hid (HIN.out.stay (StayI.below (alloc_b11 w6 (.cells #[] 3))))
          have HN7 : Hid (IOwn (w6.alloc (.cells #[] 3)) w2.heap.size (.slice (some ⟨w6.heap.size, 0, none⟩) 0 0) []) := Lib.hid HN.out
          obtain ⟨w7, hw7⟩ : ∃ w7, w6.alloc (.cells #[] 3) = w7 := ⟨_, rfl⟩
          rw [hw7] at HV7 hsz7 R7 HI7 HN7
          have HW7 := Lib.hid hw7
          clear hw7
          go_wp2_with (first
            | (at_builtin; refine wpList_append_own_none rfl _ _ 23 rfl w2.heap.size 3 i0 1 Try.underlying23 hi _ _ _ rfl HN.out rfl ?_; rw [HW7.out])
            | (at_builtin; refine wp_app_rows rfl _ _ rfl w7 w2.heap.size _ us (some ⟨w6.heap.size, 0, none⟩) 0 0 (by rfl) HV7.out (by rfl) hlus hsz7 ?_))
          intro v' w' hown' hgrow
          have H7 := Lib.hid (R7.out.append HV7.out HI7.out HN7.out hown' hgrow)
          clear hown' hgrow
          go_wp2_with fail
          go_ret2
          exact H7.out.post HG2.out HT4.out (by have := HL.out; simp; omega) (len_snoc HR4.out (by simp))
        · have hcs : ∀ (j : Nat) (u : Value), (t.map (Value.int .i64))[j]? = some u → (w6.alloc (.cells #[] 3)).cell? ((⟨g, 0, none⟩ : Addr).add j) = some u := fun j u hu => World.ownsRow.cells (World.ownsRow.alloc (show w6.ownsRow w2.heap.size 3 1 (.slice (some ⟨g, 0, none⟩) t.length cap) t.length (t.map (Value.int .i64)) from H6.out.2.1) (.cells #[] 3)) rfl j u hu
          have ht4 := HT4.out
          go_wp2_with (at_builtin; refine wpList_append_own_at _ rfl _ _ 23 rfl w2.heap.size 3 i0 (.int .i64 0) 1 8 Try.underlying23 hi hz0 hz1 hz2 rfl (by decide) _ 0 [] rfl HN.out ⟨g, 0, none⟩ t.length cap (t.map (Value.int .i64)) rfl ?d1 hcs ?d3 ?d4 ?d5 ?d6 ?_)
          case d1 => simp
          case d3 =>
            intro u hu
            obtain ⟨x, -, rfl⟩ := List.mem_map.1 hu
            rfl
          case d4 => unfold maxLen; omega
          case d5 => omega
          case d6 => simp; omega
          intro v7 w7 k1 k2 k3 k4
          have B7 : Below w6.heap.size w6 w7 := (alloc_b11 w6 _).grown k2 (by simp) (fun g hg => by have e : some w6.heap.size = some g := hg; injection e with e; omega)
          have O7 : IOwn w7 w2.heap.size v7 t := by unfold IOwn; simpa using k1
          obtain ⟨A7, c7, rfl, -, -, -⟩ := id O7.rd
          have hsz7 : w2.heap.size ≤ w7.heap.size := by have := B7.size; omega
          have R7 := Lib.hid (H6.out.below B7)
          have HV7 := Lib.hid (own_below HVO.out B7)
          have HI7 := Lib.hid (HIN.out.stay (StayI.below B7))
          have HO7 := Lib.hid O7
          clear k1 k2 k3 k4 B7 O7 hcs H6 HVO HIN
          go_wp2_with (at_builtin; refine wp_app_rows rfl _ _ rfl _ w2.heap.size _ us A7 t.length c7 (by rfl) HV7.out (by rfl) hlus hsz7 ?_)
          intro v' w' hown' hgrow
          have H7 := Lib.hid (R7.out.append HV7.out HI7.out HO7.out hown' hgrow)
          clear hown' hgrow
          go_wp2_with fail
          go_ret2
          exact H7.out.post HG2.out HT4.out (by have := HL.out; simp; omega) (len_snoc HR4.out HT4.out)
      · have h0' : (v3 == 0) = false := by simpa using h0
        go_wp2_with fail
        go_ret2
        exact H6.out.post HG2.out HT4.out (by have := HL.out; omega) HR4.out

/-- a measure and reports that were drawn -/
def DrawRep (w : World) (e : Ending) (w' : World) : Prop := ∃ tv v t rs, e = .returned (.tuple #[tv, v]) ∧ IRd w' tv t ∧ SRd w' v rs ∧ t.length ≤ 4 ∧ rs.length ≤ 5 ∧ (∀ r ∈ rs, r.length ≤ 4) ∧ Below w.heap.size w w'

set_option maxHeartbeats 1000000 in
theorem drawBestReport_any (w : World) (a : Option Addr) (len cap : Nat) (zs : List Int) (h : IsRowC .u8 w a len cap zs) :
    Calls Try.prog 30 #[.slice a len cap] w (DrawRep w) := by
  go_enter Try.func30, Try.ntmps30
  go_wp2_with fail
  refine (open_at _ w.heap.size a len cap zs rfl h).mono ?_
  rintro e w1 ⟨rfl, d1, b1, s1⟩
  go_wp2_with fail
  refine (l20Reports_any w1 w.heap.size 0 (by decide) d1.1).mono ?_
  rintro e w2 ⟨tv, v, t, rs, rfl, h1, h2, h3, h4, h5, h6⟩
  have B2 := Lib.hid (b1.grown h6 (by omega) (fun g hg => by injection hg with hg; omega))
  have HH := Lib.hid (And.intro h1 (And.intro h2 h5))
  clear h6 b1 d1 h1 h2 h5
  go_wp2_with fail
  go_ret2
  exact ⟨tv, v, t, rs, rfl, HH.out.1, HH.out.2.1, h3, h4, HH.out.2.2, B2.out⟩

end Go.Proofs.Ytnkgnhnggjoglaa
