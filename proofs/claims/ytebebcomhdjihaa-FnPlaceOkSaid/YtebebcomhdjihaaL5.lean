/- Contracts, facts and walks that the laws of this seat lean on, laid together by a program of ours (mkmerge.py) out of: Nc Nb Ng Nj Aa Ks. Conditions: stated at each. -/
import Derived.RangeFuncWrites
import Derived.RangeFuncBound
import Derived.RangeFuncCalls
import Derived.RangeFuncLeaves
import Derived.RangeFuncNested
import Derived.Shelf.RegionOpen
import Derived.WalkKit
import Derived.OwnWalkIn
import Derived.TacticsInMore
import Derived.LoopNIn
import Derived.LoopIn
import Derived.Sort.LoopGhostIn
import Derived.Test.YtebebcomhdjihaaL4
namespace Go.Proofs.Ytebebcomhdjihaa
open Go.RowKit
set_option linter.unusedVariables false

def LeftIs (xs : List Int) (k : Nat) (n : Int) : Prop := (∀ y ∈ xs.take k, 0 ≤ y ∧ y ≤ 36) ∧ n = 36 - (xs.take k).sum ∧ 0 ≤ n ∧ n ≤ 36

theorem LeftIs.step {xs : List Int} {k : Nat} {n x : Int} (h : LeftIs xs k n) (hx : xs[k]? = some x) (h0 : 0 ≤ x) (h1 : x ≤ n) : LeftIs xs (k + 1) (n - x) := by
  obtain ⟨a, b, c, d⟩ := h
  refine ⟨allm_take hx ((inB_iff _ _ _).2 (by omega)) a, ?_, by omega, by omega⟩
  rw [sum_take hx]; omega

theorem on_next {m : List Int} (hm : Grs m) {k : Nat} {x : Int} (hx : m[k]? = some x) (e : Int) :
    ((bitI e k == 1) = true → onI (m.take k) e + x = onI (m.take (k + 1)) e) ∧ ((bitI e k == 1) = false → onI (m.take k) e = onI (m.take (k + 1)) e) := by
  have h1 := onI_take hx e
  rcases bitI_01 e k with h | h
  · rw [h] at h1; rw [h]
    refine ⟨fun h2 => by simp at h2, fun _ => by rw [h1]; omega⟩
  · rw [h] at h1; rw [h]
    refine ⟨fun _ => by rw [h1]; omega, fun h2 => by simp at h2⟩

set_option maxHeartbeats 2000000 in
theorem implGrains_any (w : World) (v : Value) (m : List Int) (e : Int) (hv : IRd w v m) (hm : Grs m) (e1 : 0 ≤ e) (e2 : e ≤ 15) :
    Calls Try.prog 103 #[v, .int .i64 e] w fun r w' => r = .returned (.int .i64 (onI m e)) ∧ w = w' := by
  obtain ⟨A, c, rfl, hl, hmx, -⟩ := id hv
  have HV := Lib.hid hv
  have HM := Lib.hid hm
  have hm4 := hm.2
  clear hv hm
  go_enter Try.func103, Try.ntmps103
  go_wp2_with fail
  go_loop [5, 10] (fun t i => ∃ (k : Nat) (n : Int), i = .int .i64 (k : Int) ∧ k ≤ m.length ∧ t = .int .i64 n ∧ Hid (n = onI (m.take k) e)) (fun _ i => m.length - (intOf i).toNat)
  case atStart => exact ⟨0, 0, rfl, Nat.zero_le _, rfl, Lib.hid (by simp [onI])⟩
  case round =>
    obtain ⟨k, n, rfl, hk, rfl, HN⟩ := hrel
    by_cases hlt : k < m.length
    · obtain ⟨b, off, x, rfl, -, hx, hcx⟩ := HV.out.at_ hlt
      have HX := Lib.hid (on_next HM.out hx e)
      obtain ⟨x1, x2⟩ := HM.out.1 x (List.mem_of_getElem? hx)
      obtain ⟨n1, n2⟩ : 0 ≤ n ∧ n ≤ 144 := by rw [HN.out]; exact grs_on HM.out e k
      clear hx
      rcases Bool.eq_false_or_eq_true (bitI e k == 1) with hb | hb
      all_goals
        have HB1 := Lib.hid hb
        go_wp2_with (go_at_call 105; refine (hasQ_any _ _ e1 e2 (by omega) _).mono ?_; rintro r w' ⟨rfl, rfl⟩)
        go_round
        case rel => exact ⟨k + 1, _, by go_num, by omega, rfl, Lib.hid (by rw [HN.out]; first | exact HX.out.1 HB1.out | exact HX.out.2 HB1.out)⟩
        case measure => simp [intOf]; omega
    · go_wp2_with fail
      go_ret
      exact ⟨ret_int (by rw [HN.out, List.take_of_length_le (by omega)]), rfl⟩

end Go.Proofs.Ytebebcomhdjihaa

namespace Go.Proofs.Ytebebcomhdjihaa
open Go.RowKit
set_option linter.unusedVariables false

def fitF (B : Nat) : Value := .func (.func 102) #[] #[.pointer (some ⟨B, 0, none⟩)]

set_option maxHeartbeats 4000000 in
theorem fit1_any (W : World) (so : Bool) (q : Qt) (B : Nat) (v : Value) (m : List Int) (hB : W.cell? ⟨B, 0, none⟩ = some v) (hv : IRd W v m) (hm : Grs m) (hq : (0 ≤ q.1 ∧ q.1 ≤ 15) ∧ 0 ≤ q.2 ∧ q.2 ≤ 6) :
    Calls Try.prog 102 #[.bool so, qV q, .pointer (some ⟨B, 0, none⟩)] W fun r W' => r = .returned (.bool (so && (onI m q.1 * 6 == q.2 * 36))) ∧ Below W.heap.size W W' := by
  obtain ⟨e, p⟩ := q
  unfold qV
  obtain ⟨⟨e1, e2⟩, p1, p2⟩ := hq
  have e1 : 0 ≤ e := e1
  have e2 : e ≤ 15 := e2
  have p1 : 0 ≤ p := p1
  have p2 : p ≤ 6 := p2
  have hlt : B < W.heap.size := World.block_lt_of_cell? W _ hB
  have HLT := Lib.hid hlt
  have HBw : Hid (Below W.heap.size W (W.alloc (.cells #[.int .i64 e, .int .i64 p] 64))) := Lib.hid ((Below.refl _ _).alloc (Nat.le_refl _) _)
  have HC : Hid ((W.alloc (.cells #[.int .i64 e, .int .i64 p] 64)).cell? ⟨W.heap.size, 0, none⟩ = some (.int .i64 e) ∧ (W.alloc (.cells #[.int .i64 e, .int .i64 p] 64)).cell? ⟨W.heap.size, 1, none⟩ = some (.int .i64 p)) := Lib.hid (box_cells (W := W) (q := (e, p)) (Below.refl _ _))
  have HCB : Hid ((W.alloc (.cells #[.int .i64 e, .int .i64 p] 64)).cell? ⟨B, 0, none⟩ = some v) := Lib.hid ((HBw.out.cell (p := ⟨B, 0, none⟩) hlt).trans hB)
  have HV := Lib.hid (hv.keep (SameAt.of_below HBw.out))
  have HM := Lib.hid hm
  clear hB hv hm hlt
  obtain ⟨N, hN⟩ : ∃ N, onI m e = N := ⟨_, rfl⟩
  obtain ⟨n1, n2⟩ : 0 ≤ N ∧ N ≤ 144 := by
    have := grs_on HM.out e m.length
    rw [List.take_length, hN] at this
    exact this
  have HNN := Lib.hid hN
  clear hN
  have hw6 : IntKind.i64.wrap (N * 6) = N * 6 := IntWalk.i64_in _ (by omega)
  have hw36 : IntKind.i64.wrap (p * 36) = p * 36 := IntWalk.i64_in _ (by omega)
  cases so
  · go_enter Try.func102, Try.ntmps102
    go_wp2_with fail
    generalize W.alloc (.cells #[.int .i64 e, .int .i64 p] 64) = w1 at HBw HC HCB HV ⊢
    go_region
    go_wp2_with fail
    go_ret
    exact ⟨ret_bool rfl, HBw.out.drew⟩
  · rcases Bool.eq_false_or_eq_true (N * 6 == p * 36) with ht | ht
    all_goals
      have HT := Lib.hid ht
      have ht3 := ht
      rw [← hw6, ← hw36] at ht3
      go_enter Try.func102, Try.ntmps102
      go_wp2_with fail
      generalize W.alloc (.cells #[.int .i64 e, .int .i64 p] 64) = w1 at HBw HC HCB HV ⊢
      go_region_held3 (fun w' => w'.cell? ⟨B, 0, none⟩ = some v ∧ w'.cell? ⟨W.heap.size, 0, none⟩ = some (.int .i64 e) ∧ w'.cell? ⟨W.heap.size, 1, none⟩ = some (.int .i64 p)) (exact ⟨HCB.out, HC.out⟩) (first
        | (go_at_call 103; refine (implGrains_any w1.drew _ m e HV.out HM.out e1 e2).mono ?_; rintro r w3 ⟨rfl, rfl⟩; rw [HNN.out]))
      all_goals
        go_wp2_with fail
        go_ret
        exact ⟨ret_bool (by rw [Bool.true_and]; show _ = (onI m e * 6 == p * 36); rw [HNN.out]; exact HT.out.symm), HBw.out.drew⟩

theorem fit_step {m : List Int} {qs : List Qt} {k : Nat} {q : Qt} (hx : qs[k]? = some q) : fitI m (qs.take (k + 1)) = (fitI m (qs.take k) && (onI m q.1 * 6 == q.2 * 36)) := by
  rw [fitI, fitI, List.take_add_one, hx]
  simp

set_option maxHeartbeats 4000000 in
theorem foldFit_any (w : World) (u : Value) (qs : List Qt) (B : Nat) (v : Value) (m : List Int) (hu : QRd w u qs) (hB : w.cell? ⟨B, 0, none⟩ = some v) (hv : IRd w v m) (hm : Grs m) (hq : Qts qs) :
    Calls Try.prog 101 #[u, .bool true, fitF B] w (BoolPost (fitI m qs) w) := by
  obtain ⟨A, c, rfl, hl, hmx⟩ := hu.form
  have hlt : B < w.heap.size := World.block_lt_of_cell? w _ hB
  have HK : Hid (∀ wr o, Below w.heap.size w wr → (wr.alloc o).cell? ⟨B, 0, none⟩ = some v ∧ IRd (wr.alloc o) v m) := Lib.hid (fun wr o hb => by
    have hb2 := hb.alloc hb.size o
    exact ⟨(hb2.cell (p := ⟨B, 0, none⟩) hlt).trans hB, hv.keep (SameAt.of_below hb2)⟩)
  have HU := Lib.hid hu
  have HM := Lib.hid hm
  have HQ := Lib.hid hq
  clear hu hm hq hB hv hlt
  unfold fitF
  go_enter Try.func101, Try.ntmps101
  go_wp2_with fail
  go_loopw [1, 11] (fun t i wr => ∃ (k : Nat) (b : Bool), i = .int .i64 (k : Int) ∧ k ≤ qs.length ∧ t = .bool b ∧ Hid (b = fitI m (qs.take k)) ∧ Hid (Below w.heap.size w wr)) (fun _ i _ => qs.length - (intOf i).toNat)
  case atStart => exact ⟨0, true, rfl, Nat.zero_le _, rfl, Lib.hid (by simp [fitI]), Lib.hid (Below.refl _ _)⟩
  case round =>
    obtain ⟨k, t, rfl, hk, rfl, HN, HB⟩ := hrel
    by_cases hlt : k < qs.length
    · obtain ⟨b, off, ⟨e, p⟩, rfl, -, hx, hc0, hc1⟩ := QRd.at_ (HU.out.keep (SameAt.of_below HB.out)) hlt
      have HX := Lib.hid hx
      clear hx
      have HE := Lib.hid (HQ.out _ (List.mem_of_getElem? HX.out))
      go_wp2_with fail
      refine (fit1_any _ t (e, p) B v m (HK.out wr _ HB.out).1 (HK.out wr _ HB.out).2 HM.out HE.out).mono ?_
      rintro r w2 ⟨rfl, b2⟩
      have HB2 : Hid (Below w.heap.size w w2) := Lib.hid (below_step (HB.out.alloc HB.out.size _) b2 (by simp; have := HB.out.size; omega))
      clear b2 hc0 hc1
      obtain ⟨t2, ht2⟩ : ∃ t2, (t && (onI m (e, p).1 * 6 == (e, p).2 * 36)) = t2 := ⟨_, rfl⟩
      rw [ht2]
      have HT2 := Lib.hid ht2
      clear ht2
      go_wp2_with fail
      go_roundw
      case rel => exact ⟨k + 1, t2, by go_num, by omega, rfl, Lib.hid (by rw [fit_step HX.out, ← HN.out]; exact HT2.out.symm), HB2⟩
      case measure => simp [intOf]; omega
    · go_wp2_with fail
      go_ret
      exact ⟨ret_bool (by have := HN.out; rw [List.take_of_length_le (by omega)] at this; exact this), HB.out⟩

set_option maxHeartbeats 4000000 in
theorem implFits_any (w : World) (v u : Value) (m : List Int) (qs : List Qt) (hv : IRd w v m) (hu : QRd w u qs) (hm : Grs m) (hq : Qts qs) :
    Calls Try.prog 91 #[v, u] w (BoolPost (fitI m qs) w) := by
  obtain ⟨A, c, rfl, hl, hmx, -⟩ := id hv
  have HK : Hid ((w.alloc (.cells #[.slice A m.length c] 24)).cell? ⟨w.heap.size, 0, none⟩ = some (.slice A m.length c) ∧ IRd (w.alloc (.cells #[.slice A m.length c] 24)) (.slice A m.length c) m ∧ QRd (w.alloc (.cells #[.slice A m.length c] 24)) u qs) := Lib.hid ⟨one_new w _ _ 0 _ rfl, hv.keep (SameAt.grow rfl), hu.keep (SameAt.grow rfl)⟩
  have HM := Lib.hid hm
  have HQ := Lib.hid hq
  clear hm hq hv hu
  go_enter Try.func91, Try.ntmps91
  go_wp2_with fail
  refine (foldFit_any _ u qs w.heap.size _ m HK.out.2.2 HK.out.1 HK.out.2.1 HM.out HQ.out).mono ?_
  rintro r w2 ⟨rfl, b2⟩
  have HB2 := Lib.hid (below_step ((Below.refl w.heap.size w).alloc (Nat.le_refl _) _) b2 (by simp))
  clear b2
  go_wp2_with fail
  go_ret
  exact ⟨ret_bool rfl, HB2.out⟩

end Go.Proofs.Ytebebcomhdjihaa

namespace Go.Proofs.Ytebebcomhdjihaa
open Go.RowKit
set_option linter.unusedVariables false

set_option maxHeartbeats 2000000 in
theorem leastMeasure_any (w : World) (n : Nat) (h1 : 1 ≤ n) (h4 : n ≤ 4) :
    Calls Try.prog 99 #[.int .i64 (n : Int)] w (NewInts (natL (firstL n 36)) w) := by
  obtain ⟨i0, hi, hz0, hz1, hz2⟩ := info_parts Try_intinfo
  obtain rfl | rfl | rfl | rfl : n = 1 ∨ n = 2 ∨ n = 3 ∨ n = 4 := by omega
  · have hmk : ∀ w : World, (Instr.makeSlice 24 (.int .i64 1) (.int .i64 1)).run Try.prog w = .ok (.slice (some ⟨w.heap.size, 0, none⟩) 1 1) (w.alloc (.cells #[.int .i64 0] 3)) := by
      intro w
      have h := run_make (P := Try.prog) w 24 3 i0 (.int .i64 0) Try.underlying24 hi hz0 .i64 .i64 1 1 (by omega) (Int.le_refl _) (by rw [hz2]; omega) (by omega)
      rw [hz1] at h
      have e : madeCells (Value.int .i64 0).cells (Int.toNat 1 * 1) = #[.int .i64 0] := by kernel_rfl
      rw [e] at h
      exact h
    go_enter Try.func99, Try.ntmps99
    go_wp2
    go_ret
    refine ⟨_, rfl, ?_, by go_grown⟩
    exact World.ownsRow_lit w #[.int .i64 36] 1 (Nat.le_refl _) (by unfold maxLen; omega) rfl
  · have hmk : ∀ w : World, (Instr.makeSlice 24 (.int .i64 2) (.int .i64 2)).run Try.prog w = .ok (.slice (some ⟨w.heap.size, 0, none⟩) 2 2) (w.alloc (.cells #[.int .i64 0, .int .i64 0] 3)) := by
      intro w
      have h := run_make (P := Try.prog) w 24 3 i0 (.int .i64 0) Try.underlying24 hi hz0 .i64 .i64 2 2 (by omega) (Int.le_refl _) (by rw [hz2]; omega) (by omega)
      rw [hz1] at h
      have e : madeCells (Value.int .i64 0).cells (Int.toNat 2 * 1) = #[.int .i64 0, .int .i64 0] := by kernel_rfl
      rw [e] at h
      exact h
    go_enter Try.func99, Try.ntmps99
    go_wp2
    go_ret
    refine ⟨_, rfl, ?_, by go_grown⟩
    exact World.ownsRow_lit w #[.int .i64 0, .int .i64 36] 2 (Nat.le_refl _) (by unfold maxLen; omega) rfl
  · have hmk : ∀ w : World, (Instr.makeSlice 24 (.int .i64 3) (.int .i64 3)).run Try.prog w = .ok (.slice (some ⟨w.heap.size, 0, none⟩) 3 3) (w.alloc (.cells #[.int .i64 0, .int .i64 0, .int .i64 0] 3)) := by
      intro w
      have h := run_make (P := Try.prog) w 24 3 i0 (.int .i64 0) Try.underlying24 hi hz0 .i64 .i64 3 3 (by omega) (Int.le_refl _) (by rw [hz2]; omega) (by omega)
      rw [hz1] at h
      have e : madeCells (Value.int .i64 0).cells (Int.toNat 3 * 1) = #[.int .i64 0, .int .i64 0, .int .i64 0] := by kernel_rfl
      rw [e] at h
      exact h
    go_enter Try.func99, Try.ntmps99
    go_wp2
    go_ret
    refine ⟨_, rfl, ?_, by go_grown⟩
    exact World.ownsRow_lit w #[.int .i64 0, .int .i64 0, .int .i64 36] 3 (Nat.le_refl _) (by unfold maxLen; omega) rfl
  · have hmk : ∀ w : World, (Instr.makeSlice 24 (.int .i64 4) (.int .i64 4)).run Try.prog w = .ok (.slice (some ⟨w.heap.size, 0, none⟩) 4 4) (w.alloc (.cells #[.int .i64 0, .int .i64 0, .int .i64 0, .int .i64 0] 3)) := by
      intro w
      have h := run_make (P := Try.prog) w 24 3 i0 (.int .i64 0) Try.underlying24 hi hz0 .i64 .i64 4 4 (by omega) (Int.le_refl _) (by rw [hz2]; omega) (by omega)
      rw [hz1] at h
      have e : madeCells (Value.int .i64 0).cells (Int.toNat 4 * 1) = #[.int .i64 0, .int .i64 0, .int .i64 0, .int .i64 0] := by kernel_rfl
      rw [e] at h
      exact h
    go_enter Try.func99, Try.ntmps99
    go_wp2
    go_ret
    refine ⟨_, rfl, ?_, by go_grown⟩
    exact World.ownsRow_lit w #[.int .i64 0, .int .i64 0, .int .i64 0, .int .i64 36] 4 (Nat.le_refl _) (by unfold maxLen; omega) rfl

set_option maxHeartbeats 2000000 in
theorem next_1_0 (w : World) (base : Nat) (v : Value) (a : Nat) (ha : a ≤ 36) (hv : IOwn w base v (natL [a])) :
    Calls Try.prog 100 #[v] w (StepPost base v [a] w) := by
  obtain ⟨g, cap, rfl, hc1, hc2⟩ := hv.form (by simp [natL])
  have hn : (natL [a]).length = 1 := rfl
  rw [hn] at hc1 ⊢
  rw [hn] at hv
  have hc3 : (1 : Int) ≤ (cap : Int) := by omega
  have k0 : w.cell? ⟨g, 0, none⟩ = some (.int .i64 ((a : Nat) : Int)) := hv.cellk rfl
  have f0 : w.frozen? ⟨g, 0, none⟩ = false := hv.frz rfl 0
  have HR := Lib.hid (step_no (l := [a]) (by simp [stepL]) hv)
  clear hv
  go_enter Try.func100, Try.ntmps100
  go_wp2_with fail
  go_rounds 6
  go_ret
  exact HR.out

set_option maxHeartbeats 2000000 in
theorem next_2_1 (w : World) (base : Nat) (v : Value) (a b : Nat) (ha : a ≤ 36) (hb : b ≤ 36) (hv : IOwn w base v (natL [a, b + 1])) :
    Calls Try.prog 100 #[v] w (StepPost base v [a, b + 1] w) := by
  obtain ⟨g, cap, rfl, hc1, hc2⟩ := hv.form (by simp [natL])
  have hn : (natL [a, b + 1]).length = 2 := rfl
  rw [hn] at hc1 ⊢
  rw [hn] at hv
  have hc3 : (2 : Int) ≤ (cap : Int) := by omega
  have k0 : w.cell? ⟨g, 0, none⟩ = some (.int .i64 ((a : Nat) : Int)) := hv.cellk rfl
  have f0 : w.frozen? ⟨g, 0, none⟩ = false := hv.frz rfl 0
  have k1 : w.cell? ⟨g, 1, none⟩ = some (.int .i64 ((b + 1 : Nat) : Int)) := hv.cellk rfl
  have f1 : w.frozen? ⟨g, 1, none⟩ = false := hv.frz rfl 1
  obtain ⟨o1, g1⟩ := hv.set_ rfl 1 0
  obtain ⟨o2, g2⟩ := o1.set_ rfl 0 ((a : Int) + 1)
  obtain ⟨o3, g3⟩ := o2.set_ rfl 1 (b : Int)
  have HR := Lib.hid (step_yes (l := [a, b + 1]) (l' := [a + 1, b]) (by simp [stepL, firstL]) g1 g2 g3 o3 (by simp [natL]) (by simp [World.setCell]))
  have hne : (0 : Int) < ((b + 1 : Nat) : Int) := by omega
  have hne2 : (0 : Int) < (b : Int) + 1 := by omega
  clear o1 o2 o3 g1 g2 g3 hv
  go_enter Try.func100, Try.ntmps100
  go_wp2_with fail
  go_rounds 6
  go_ret
  have h := HR.out
  simpa using h

set_option maxHeartbeats 2000000 in
theorem next_2_0 (w : World) (base : Nat) (v : Value) (a : Nat) (ha : a ≤ 36) (hv : IOwn w base v (natL [a, 0])) :
    Calls Try.prog 100 #[v] w (StepPost base v [a, 0] w) := by
  obtain ⟨g, cap, rfl, hc1, hc2⟩ := hv.form (by simp [natL])
  have hn : (natL [a, 0]).length = 2 := rfl
  rw [hn] at hc1 ⊢
  rw [hn] at hv
  have hc3 : (2 : Int) ≤ (cap : Int) := by omega
  have k0 : w.cell? ⟨g, 0, none⟩ = some (.int .i64 ((a : Nat) : Int)) := hv.cellk rfl
  have f0 : w.frozen? ⟨g, 0, none⟩ = false := hv.frz rfl 0
  have k1 : w.cell? ⟨g, 1, none⟩ = some (.int .i64 0) := hv.cellk rfl
  have f1 : w.frozen? ⟨g, 1, none⟩ = false := hv.frz rfl 1
  have HR := Lib.hid (step_no (l := [a, 0]) (by simp [stepL]) hv)
  clear hv
  go_enter Try.func100, Try.ntmps100
  go_wp2_with fail
  go_rounds 6
  go_ret
  exact HR.out

set_option maxHeartbeats 2000000 in
theorem next_3_2 (w : World) (base : Nat) (v : Value) (a b c : Nat) (ha : a ≤ 36) (hb : b ≤ 36) (hc : c ≤ 36) (hv : IOwn w base v (natL [a, b, c + 1])) :
    Calls Try.prog 100 #[v] w (StepPost base v [a, b, c + 1] w) := by
  obtain ⟨g, cap, rfl, hc1, hc2⟩ := hv.form (by simp [natL])
  have hn : (natL [a, b, c + 1]).length = 3 := rfl
  rw [hn] at hc1 ⊢
  rw [hn] at hv
  have hc3 : (3 : Int) ≤ (cap : Int) := by omega
  have k0 : w.cell? ⟨g, 0, none⟩ = some (.int .i64 ((a : Nat) : Int)) := hv.cellk rfl
  have f0 : w.frozen? ⟨g, 0, none⟩ = false := hv.frz rfl 0
  have k1 : w.cell? ⟨g, 1, none⟩ = some (.int .i64 ((b : Nat) : Int)) := hv.cellk rfl
  have f1 : w.frozen? ⟨g, 1, none⟩ = false := hv.frz rfl 1
  have k2 : w.cell? ⟨g, 2, none⟩ = some (.int .i64 ((c + 1 : Nat) : Int)) := hv.cellk rfl
  have f2 : w.frozen? ⟨g, 2, none⟩ = false := hv.frz rfl 2
  obtain ⟨o1, g1⟩ := hv.set_ rfl 2 0
  obtain ⟨o2, g2⟩ := o1.set_ rfl 1 ((b : Int) + 1)
  obtain ⟨o3, g3⟩ := o2.set_ rfl 2 (c : Int)
  have HR := Lib.hid (step_yes (l := [a, b, c + 1]) (l' := [a, b + 1, c]) (by simp [stepL, firstL]) g1 g2 g3 o3 (by simp [natL]) (by simp [World.setCell]))
  have hne : (0 : Int) < ((c + 1 : Nat) : Int) := by omega
  have hne2 : (0 : Int) < (c : Int) + 1 := by omega
  clear o1 o2 o3 g1 g2 g3 hv
  go_enter Try.func100, Try.ntmps100
  go_wp2_with fail
  go_rounds 6
  go_ret
  have h := HR.out
  simpa using h

set_option maxHeartbeats 2000000 in
theorem next_3_1 (w : World) (base : Nat) (v : Value) (a b : Nat) (ha : a ≤ 36) (hb : b ≤ 36) (hv : IOwn w base v (natL [a, b + 1, 0])) :
    Calls Try.prog 100 #[v] w (StepPost base v [a, b + 1, 0] w) := by
  obtain ⟨g, cap, rfl, hc1, hc2⟩ := hv.form (by simp [natL])
  have hn : (natL [a, b + 1, 0]).length = 3 := rfl
  rw [hn] at hc1 ⊢
  rw [hn] at hv
  have hc3 : (3 : Int) ≤ (cap : Int) := by omega
  have k0 : w.cell? ⟨g, 0, none⟩ = some (.int .i64 ((a : Nat) : Int)) := hv.cellk rfl
  have f0 : w.frozen? ⟨g, 0, none⟩ = false := hv.frz rfl 0
  have k1 : w.cell? ⟨g, 1, none⟩ = some (.int .i64 ((b + 1 : Nat) : Int)) := hv.cellk rfl
  have f1 : w.frozen? ⟨g, 1, none⟩ = false := hv.frz rfl 1
  have k2 : w.cell? ⟨g, 2, none⟩ = some (.int .i64 0) := hv.cellk rfl
  have f2 : w.frozen? ⟨g, 2, none⟩ = false := hv.frz rfl 2
  obtain ⟨o1, g1⟩ := hv.set_ rfl 1 0
  obtain ⟨o2, g2⟩ := o1.set_ rfl 0 ((a : Int) + 1)
  obtain ⟨o3, g3⟩ := o2.set_ rfl 2 (b : Int)
  have HR := Lib.hid (step_yes (l := [a, b + 1, 0]) (l' := [a + 1, 0, b]) (by simp [stepL, firstL]) g1 g2 g3 o3 (by simp [natL]) (by simp [World.setCell]))
  have hne : (0 : Int) < ((b + 1 : Nat) : Int) := by omega
  have hne2 : (0 : Int) < (b : Int) + 1 := by omega
  clear o1 o2 o3 g1 g2 g3 hv
  go_enter Try.func100, Try.ntmps100
  go_wp2_with fail
  go_rounds 6
  go_ret
  have h := HR.out
  simpa using h

set_option maxHeartbeats 2000000 in
theorem next_3_0 (w : World) (base : Nat) (v : Value) (a : Nat) (ha : a ≤ 36) (hv : IOwn w base v (natL [a, 0, 0])) :
    Calls Try.prog 100 #[v] w (StepPost base v [a, 0, 0] w) := by
  obtain ⟨g, cap, rfl, hc1, hc2⟩ := hv.form (by simp [natL])
  have hn : (natL [a, 0, 0]).length = 3 := rfl
  rw [hn] at hc1 ⊢
  rw [hn] at hv
  have hc3 : (3 : Int) ≤ (cap : Int) := by omega
  have k0 : w.cell? ⟨g, 0, none⟩ = some (.int .i64 ((a : Nat) : Int)) := hv.cellk rfl
  have f0 : w.frozen? ⟨g, 0, none⟩ = false := hv.frz rfl 0
  have k1 : w.cell? ⟨g, 1, none⟩ = some (.int .i64 0) := hv.cellk rfl
  have f1 : w.frozen? ⟨g, 1, none⟩ = false := hv.frz rfl 1
  have k2 : w.cell? ⟨g, 2, none⟩ = some (.int .i64 0) := hv.cellk rfl
  have f2 : w.frozen? ⟨g, 2, none⟩ = false := hv.frz rfl 2
  have HR := Lib.hid (step_no (l := [a, 0, 0]) (by simp [stepL]) hv)
  clear hv
  go_enter Try.func100, Try.ntmps100
  go_wp2_with fail
  go_rounds 6
  go_ret
  exact HR.out

set_option maxHeartbeats 2000000 in
theorem next_4_3 (w : World) (base : Nat) (v : Value) (a b c d : Nat) (ha : a ≤ 36) (hb : b ≤ 36) (hc : c ≤ 36) (hd : d ≤ 36) (hv : IOwn w base v (natL [a, b, c, d + 1])) :
    Calls Try.prog 100 #[v] w (StepPost base v [a, b, c, d + 1] w) := by
  obtain ⟨g, cap, rfl, hc1, hc2⟩ := hv.form (by simp [natL])
  have hn : (natL [a, b, c, d + 1]).length = 4 := rfl
  rw [hn] at hc1 ⊢
  rw [hn] at hv
  have hc3 : (4 : Int) ≤ (cap : Int) := by omega
  have k0 : w.cell? ⟨g, 0, none⟩ = some (.int .i64 ((a : Nat) : Int)) := hv.cellk rfl
  have f0 : w.frozen? ⟨g, 0, none⟩ = false := hv.frz rfl 0
  have k1 : w.cell? ⟨g, 1, none⟩ = some (.int .i64 ((b : Nat) : Int)) := hv.cellk rfl
  have f1 : w.frozen? ⟨g, 1, none⟩ = false := hv.frz rfl 1
  have k2 : w.cell? ⟨g, 2, none⟩ = some (.int .i64 ((c : Nat) : Int)) := hv.cellk rfl
  have f2 : w.frozen? ⟨g, 2, none⟩ = false := hv.frz rfl 2
  have k3 : w.cell? ⟨g, 3, none⟩ = some (.int .i64 ((d + 1 : Nat) : Int)) := hv.cellk rfl
  have f3 : w.frozen? ⟨g, 3, none⟩ = false := hv.frz rfl 3
  obtain ⟨o1, g1⟩ := hv.set_ rfl 3 0
  obtain ⟨o2, g2⟩ := o1.set_ rfl 2 ((c : Int) + 1)
  obtain ⟨o3, g3⟩ := o2.set_ rfl 3 (d : Int)
  have HR := Lib.hid (step_yes (l := [a, b, c, d + 1]) (l' := [a, b, c + 1, d]) (by simp [stepL, firstL]) g1 g2 g3 o3 (by simp [natL]) (by simp [World.setCell]))
  have hne : (0 : Int) < ((d + 1 : Nat) : Int) := by omega
  have hne2 : (0 : Int) < (d : Int) + 1 := by omega
  clear o1 o2 o3 g1 g2 g3 hv
  go_enter Try.func100, Try.ntmps100
  go_wp2_with fail
  go_rounds 6
  go_ret
  have h := HR.out
  simpa using h

set_option maxHeartbeats 2000000 in
theorem next_4_2 (w : World) (base : Nat) (v : Value) (a b c : Nat) (ha : a ≤ 36) (hb : b ≤ 36) (hc : c ≤ 36) (hv : IOwn w base v (natL [a, b, c + 1, 0])) :
    Calls Try.prog 100 #[v] w (StepPost base v [a, b, c + 1, 0] w) := by
  obtain ⟨g, cap, rfl, hc1, hc2⟩ := hv.form (by simp [natL])
  have hn : (natL [a, b, c + 1, 0]).length = 4 := rfl
  rw [hn] at hc1 ⊢
  rw [hn] at hv
  have hc3 : (4 : Int) ≤ (cap : Int) := by omega
  have k0 : w.cell? ⟨g, 0, none⟩ = some (.int .i64 ((a : Nat) : Int)) := hv.cellk rfl
  have f0 : w.frozen? ⟨g, 0, none⟩ = false := hv.frz rfl 0
  have k1 : w.cell? ⟨g, 1, none⟩ = some (.int .i64 ((b : Nat) : Int)) := hv.cellk rfl
  have f1 : w.frozen? ⟨g, 1, none⟩ = false := hv.frz rfl 1
  have k2 : w.cell? ⟨g, 2, none⟩ = some (.int .i64 ((c + 1 : Nat) : Int)) := hv.cellk rfl
  have f2 : w.frozen? ⟨g, 2, none⟩ = false := hv.frz rfl 2
  have k3 : w.cell? ⟨g, 3, none⟩ = some (.int .i64 0) := hv.cellk rfl
  have f3 : w.frozen? ⟨g, 3, none⟩ = false := hv.frz rfl 3
  obtain ⟨o1, g1⟩ := hv.set_ rfl 2 0
  obtain ⟨o2, g2⟩ := o1.set_ rfl 1 ((b : Int) + 1)
  obtain ⟨o3, g3⟩ := o2.set_ rfl 3 (c : Int)
  have HR := Lib.hid (step_yes (l := [a, b, c + 1, 0]) (l' := [a, b + 1, 0, c]) (by simp [stepL, firstL]) g1 g2 g3 o3 (by simp [natL]) (by simp [World.setCell]))
  have hne : (0 : Int) < ((c + 1 : Nat) : Int) := by omega
  have hne2 : (0 : Int) < (c : Int) + 1 := by omega
  clear o1 o2 o3 g1 g2 g3 hv
  go_enter Try.func100, Try.ntmps100
  go_wp2_with fail
  go_rounds 6
  go_ret
  have h := HR.out
  simpa using h

set_option maxHeartbeats 2000000 in
theorem next_4_1 (w : World) (base : Nat) (v : Value) (a b : Nat) (ha : a ≤ 36) (hb : b ≤ 36) (hv : IOwn w base v (natL [a, b + 1, 0, 0])) :
    Calls Try.prog 100 #[v] w (StepPost base v [a, b + 1, 0, 0] w) := by
  obtain ⟨g, cap, rfl, hc1, hc2⟩ := hv.form (by simp [natL])
  have hn : (natL [a, b + 1, 0, 0]).length = 4 := rfl
  rw [hn] at hc1 ⊢
  rw [hn] at hv
  have hc3 : (4 : Int) ≤ (cap : Int) := by omega
  have k0 : w.cell? ⟨g, 0, none⟩ = some (.int .i64 ((a : Nat) : Int)) := hv.cellk rfl
  have f0 : w.frozen? ⟨g, 0, none⟩ = false := hv.frz rfl 0
  have k1 : w.cell? ⟨g, 1, none⟩ = some (.int .i64 ((b + 1 : Nat) : Int)) := hv.cellk rfl
  have f1 : w.frozen? ⟨g, 1, none⟩ = false := hv.frz rfl 1
  have k2 : w.cell? ⟨g, 2, none⟩ = some (.int .i64 0) := hv.cellk rfl
  have f2 : w.frozen? ⟨g, 2, none⟩ = false := hv.frz rfl 2
  have k3 : w.cell? ⟨g, 3, none⟩ = some (.int .i64 0) := hv.cellk rfl
  have f3 : w.frozen? ⟨g, 3, none⟩ = false := hv.frz rfl 3
  obtain ⟨o1, g1⟩ := hv.set_ rfl 1 0
  obtain ⟨o2, g2⟩ := o1.set_ rfl 0 ((a : Int) + 1)
  obtain ⟨o3, g3⟩ := o2.set_ rfl 3 (b : Int)
  have HR := Lib.hid (step_yes (l := [a, b + 1, 0, 0]) (l' := [a + 1, 0, 0, b]) (by simp [stepL, firstL]) g1 g2 g3 o3 (by simp [natL]) (by simp [World.setCell]))
  have hne : (0 : Int) < ((b + 1 : Nat) : Int) := by omega
  have hne2 : (0 : Int) < (b : Int) + 1 := by omega
  clear o1 o2 o3 g1 g2 g3 hv
  go_enter Try.func100, Try.ntmps100
  go_wp2_with fail
  go_rounds 6
  go_ret
  have h := HR.out
  simpa using h

set_option maxHeartbeats 2000000 in
theorem next_4_0 (w : World) (base : Nat) (v : Value) (a : Nat) (ha : a ≤ 36) (hv : IOwn w base v (natL [a, 0, 0, 0])) :
    Calls Try.prog 100 #[v] w (StepPost base v [a, 0, 0, 0] w) := by
  obtain ⟨g, cap, rfl, hc1, hc2⟩ := hv.form (by simp [natL])
  have hn : (natL [a, 0, 0, 0]).length = 4 := rfl
  rw [hn] at hc1 ⊢
  rw [hn] at hv
  have hc3 : (4 : Int) ≤ (cap : Int) := by omega
  have k0 : w.cell? ⟨g, 0, none⟩ = some (.int .i64 ((a : Nat) : Int)) := hv.cellk rfl
  have f0 : w.frozen? ⟨g, 0, none⟩ = false := hv.frz rfl 0
  have k1 : w.cell? ⟨g, 1, none⟩ = some (.int .i64 0) := hv.cellk rfl
  have f1 : w.frozen? ⟨g, 1, none⟩ = false := hv.frz rfl 1
  have k2 : w.cell? ⟨g, 2, none⟩ = some (.int .i64 0) := hv.cellk rfl
  have f2 : w.frozen? ⟨g, 2, none⟩ = false := hv.frz rfl 2
  have k3 : w.cell? ⟨g, 3, none⟩ = some (.int .i64 0) := hv.cellk rfl
  have f3 : w.frozen? ⟨g, 3, none⟩ = false := hv.frz rfl 3
  have HR := Lib.hid (step_no (l := [a, 0, 0, 0]) (by simp [stepL]) hv)
  clear hv
  go_enter Try.func100, Try.ntmps100
  go_wp2_with fail
  go_rounds 6
  go_ret
  exact HR.out

theorem layNext_any (w : World) (base : Nat) (v : Value) (l : List Nat) (h1 : 1 ≤ l.length) (h4 : l.length ≤ 4) (hs : l.sum ≤ 36) (hv : IOwn w base v (natL l)) :
    Calls Try.prog 100 #[v] w (StepPost base v l w) := by
  match l, h1, h4, hs, hv with
  | [a], h1, h4, hs, hv =>
    simp only [List.sum_cons, List.sum_nil] at hs
    exact next_1_0 w base v a (by omega) hv
  | [a, b], h1, h4, hs, hv =>
    simp only [List.sum_cons, List.sum_nil] at hs
    cases b with
    | zero =>
      exact next_2_0 w base v a (by omega) hv
    | succ b => exact next_2_1 w base v a b (by omega) (by omega) hv
  | [a, b, c], h1, h4, hs, hv =>
    simp only [List.sum_cons, List.sum_nil] at hs
    cases c with
    | zero =>
      cases b with
      | zero =>
        exact next_3_0 w base v a (by omega) hv
      | succ b => exact next_3_1 w base v a b (by omega) (by omega) hv
    | succ c => exact next_3_2 w base v a b c (by omega) (by omega) (by omega) hv
  | [a, b, c, d], h1, h4, hs, hv =>
    simp only [List.sum_cons, List.sum_nil] at hs
    cases d with
    | zero =>
      cases c with
      | zero =>
        cases b with
        | zero =>
          exact next_4_0 w base v a (by omega) hv
        | succ b => exact next_4_1 w base v a b (by omega) (by omega) hv
      | succ c => exact next_4_2 w base v a b c (by omega) (by omega) (by omega) hv
    | succ d => exact next_4_3 w base v a b c d (by omega) (by omega) (by omega) (by omega) hv

end Go.Proofs.Ytebebcomhdjihaa

namespace Go.Proofs.Ytebebcomhdjihaa
open Go.RowKit
set_option linter.unusedVariables false

def KeptBut (C l : Nat) (A B : World) : Prop := A.heap.size ≤ B.heap.size ∧ ∀ k, k < A.heap.size → k ≠ C → k ≠ l → B.heap[k]? = A.heap[k]?

def Stays {β : Type} (B : Nat) (J : β → World → Prop) : Prop := ∀ s A A', J s A → Below B A A' → J s A'

def RowWalk (n : Nat) (P : Program) (gf : Nat) (lb : Array Value) (C : Nat) (w0 : World) (all : List (List Int)) : Prop :=
  ∀ (l : Nat) (J Jx : List (List Int) → World → Prop) (W : World), Below w0.heap.size w0 W → w0.heap.size ≤ l → l < W.heap.size → Stays W.heap.size J →
    (∀ pre x v A, J pre A → W.heap.size ≤ A.heap.size → IOwn A W.heap.size v x → (pre ++ [x]) <+: all →
      YieldAt Fence.wide (n - 1) P l #[v] A fun e A' => (e = .returned (.bool true) ∧ J (pre ++ [x]) A' ∧ KeptBut C l A A') ∨ (e = .returned (.bool false) ∧ Jx (pre ++ [x]) A')) →
    J [] W →
    CallsIn Fence.wide n P gf (#[.func (.yield l) #[] #[]] ++ lb) W fun e A => (∃ v, e = .returned v) ∧ (J all A ∨ ∃ pre, pre <+: all ∧ Jx pre A)

def RowPost (C : Nat) (I : List (List Int) → World → Prop) (Ix : Code → List (List Int) → World → Prop) (xs : List (List Int)) (A : World) : Exit → Act → World → Prop
  | .normal, _, B => KeptBut C C A B ∧ I xs B
  | .ret, _, B => KeepsOthers A B ∧ Ix .ret xs B
  | _, _, _ => False

theorem below_put {B : Nat} {A : World} {l : Nat} (o : Obj) (hl : l < A.heap.size) (hB : B ≤ l) : Below B A (A.putObj l o) :=
  (Below.refl B A).grown (grownBy_putObj' A l o) (by omega) (fun k e => by cases e; exact hB)

theorem own_put {A : World} {base l : Nat} {v : Value} {x : List Int} (o : Obj) (h : IOwn A base v x) (hl : l < base) : IOwn (A.putObj l o) base v x :=
  h.keep ⟨by simp, fun g hg hlt => World.putObj_heap_other (by have := (h.ge g hg).1; omega)⟩

set_option maxHeartbeats 2000000 in
theorem wpIn_rows {n : Nat} {P : Program} {g : Operand} {ps : Array Tmp} {assign body : Code} {Q : Exit → Act → World → Prop} {a : Act} {w : World} (h1 : 1 ≤ n)
    {gf : Nat} {lb : Array Value} (hg : a.eval g = .func (.func gf) #[] lb) (eg : ∀ args w, (callFunc gf args).run P w = .ok (.enter gf args) w)
    {C : Nat} {all : List (List Int)} (hseq : RowWalk (n - 1) P gf lb C w all) (hC : C < w.heap.size) (hps : ps.size = 1)
    (I : List (List Int) → World → Prop) (Ix : Code → List (List Int) → World → Prop) (hI : Stays w.heap.size I)
    (hIx : ∀ c pre A l o o', Ix c pre A → w.heap.size ≤ l → A.heap[l]? = some o → o.isCells = false → Ix c pre (A.putObj l o')) (h0 : I [] w)
    (hround : ∀ (l : Nat) (pre : List (List Int)) (x : List Int) (v : Value) (W : World), (pre ++ [x]) <+: all →
      assign.wpIn (Fence.wide.inRound l) (n - 1 - 1) P (Exit.then (fun a₁ W' => W' = W ∧ ∀ B, I pre B → w.heap.size + 2 ≤ B.heap.size → IOwn B (w.heap.size + 2) v x →
        body.wpIn (Fence.wide.inRound l) (n - 1 - 1) P (RowPost C I Ix (pre ++ [x]) B) a₁ B) (fun _ _ _ => False)) { tmps := (ps.zip #[v]).foldl (fun t (p, v) => t.setIfInBounds p v) a.tmps, defers := [] } W)
    (hdone : ∀ (D : Nat) (W : World), w.heap.size ≤ D → I all W → W.heap[D]? = some (.deferred (some [])) → Q .normal { a with defers := { target := .collected D, args := #[] } :: a.defers } W)
    (hstop : ∀ (D : Nat) (c : Code) (pre : List (List Int)) (W : World), w.heap.size ≤ D → pre <+: all → Ix c pre W → W.heap[D]? = some (.deferred (some [])) → c.wpIn Fence.wide n P Q { a with defers := { target := .collected D, args := #[] } :: a.defers } W) :
    (Code.rangeFunc g ps assign body).wpIn Fence.wide n P Q a w := by
  apply wpIn_rangeFunc
  intro fn _
  -- the record of the loop, and the world in which the walk's function is called
  let rec' : LoopState → Option Code → Loop := fun st pe => { state := st, pending := pe, fn := fn, tmps := a.tmps, params := ps, assign := assign, body := body, defers := w.heap.size }
  obtain ⟨rc, hrc⟩ : ∃ rc, rc = rec' := ⟨_, rfl⟩
  have hs0 : ∀ st pe, (rc st pe).state = st := fun _ _ => by rw [hrc]
  have hp0 : ∀ st pe, (rc st pe).pending = pe := fun _ _ => by rw [hrc]
  obtain ⟨S, hS⟩ : ∃ S, (w.alloc (.deferred (some []))).alloc (.loop (rc .ready none)) = S := ⟨_, rfl⟩
  have hsz : S.heap.size = w.heap.size + 2 := by rw [← hS]; simp
  have hSl : S.heap[w.heap.size + 1]? = some (.loop (rc .ready none)) := by
    rw [← hS]
    have := World.alloc_heap_new (w.alloc (.deferred (some []))) (.loop (rc .ready none))
    rwa [World.size_alloc] at this
  have hSd : S.heap[w.heap.size]? = some (.deferred (some [])) := by
    rw [← hS, Below.heap_alloc _ _ _ (by simp)]; exact World.alloc_heap_new w _
  have hSB : Below w.heap.size w S := by rw [← hS]; exact ((Below.refl _ w).alloc (Nat.le_refl _) _).alloc (by simp) _
  refine ⟨w.heap.size + 1, [{ target := .collected w.heap.size, args := #[] }], S, { target := .fn (.func gf) lb, args := #[.func (.yield (w.heap.size + 1)) #[] #[]] }, S, gf, #[.func (.yield (w.heap.size + 1)) #[] #[]] ++ lb, S, ?_, ?_, fun _ _ => trivial, ?_, fun _ => h1, ?_⟩
  · rw [← hS, hrc]; exact run_enterLoop_outer _ _ _ _ _
  · simp only [resolve, hg]; simp [go_sem]
  · simp [invoke, go_sem, eg]
  refine (hseq (w.heap.size + 1)
    (fun pre A => I pre A ∧ A.heap[w.heap.size + 1]? = some (.loop (rc .ready none)) ∧ A.heap[w.heap.size]? = some (.deferred (some [])))
    (fun pre A => ∃ c, Ix c pre A ∧ A.heap[w.heap.size + 1]? = some (.loop (rc .done (some c))) ∧ A.heap[w.heap.size]? = some (.deferred (some [])))
    S hSB (by omega) (by omega) ?stay ?round ⟨hI _ _ _ h0 hSB, hSl, hSd⟩).mono ?behind
  case stay =>
    rintro pre A A' ⟨i1, i2, i3⟩ hb
    exact ⟨hI _ _ _ i1 (hb.mono (by omega)), (hb.block _ (by omega)).trans i2, (hb.block _ (by omega)).trans i3⟩
  case round =>
    rintro pre x v A ⟨i1, i2, i3⟩ hA hv hpre
    have hlt : w.heap.size + 1 < A.heap.size := (Array.getElem?_eq_some_iff.1 i2).1
    have hy := run_yield (P := P) (args := #[v]) i2 (by rw [hrc]; simp [rec', hps])
    rw [hrc] at hy
    refine ⟨fn, _, assign, body, hy, roundIn_of_wpIn trivial (wpIn_mono (hround _ pre x v A hpre) ?_)⟩
    rintro e0 a1 A1 h01
    cases e0 with
    | exit id => exact h01.elim
    | goto t => exact h01.elim
    | ret => exact h01.elim
    | panic ch => exact h01.elim
    | outgrown => exact h01.elim
    | normal =>
    obtain ⟨rfl, hbody⟩ := h01
    refine ⟨_, run_beginRound i2 (hs0 _ _), ?_⟩
    obtain ⟨B, hB⟩ : ∃ B, A1.putObj (w.heap.size + 1) (.loop { rc .ready none with state := .busy }) = B := ⟨_, rfl⟩
    rw [hB]
    have hBl : B.heap[w.heap.size + 1]? = some (.loop { rc .ready none with state := .busy }) := by rw [← hB]; exact World.putObj_heap_same hlt
    have hBd : B.heap[w.heap.size]? = some (.deferred (some [])) := by rw [← hB, World.putObj_heap_other (by omega)]; exact i3
    have hBs : B.heap.size = A1.heap.size := by rw [← hB]; simp
    have hBI : I pre B := by rw [← hB]; exact hI _ _ _ i1 (below_put _ hlt (by omega))
    have hBv : IOwn B (w.heap.size + 2) v x := by rw [← hB, ← hsz]; exact own_put _ hv (by omega)
    have hBo : ∀ k, k ≠ w.heap.size + 1 → B.heap[k]? = A1.heap[k]? := fun k hk => by rw [← hB]; exact World.putObj_heap_other hk
    refine wpIn_mono (hbody B hBI (by omega) hBv) ?_
    rintro e a3 Z hp
    -- the record and the deferred calls' block, behind the body
    have fin : ∀ (jump : Option Code), Z.heap[w.heap.size + 1]? = some (.loop { rc .ready none with state := .busy }) → Z.heap[w.heap.size]? = some (.deferred (some [])) →
        (Instr.endRound (w.heap.size + 1) jump).run P Z = .ok (.bool jump.isNone) (Z.putObj (w.heap.size + 1) (.loop (rc (if jump.isNone then .ready else .done) jump))) ∧
        (Z.putObj (w.heap.size + 1) (.loop (rc (if jump.isNone then .ready else .done) jump))).heap[w.heap.size + 1]? = some (.loop (rc (if jump.isNone then .ready else .done) jump)) ∧
        (Z.putObj (w.heap.size + 1) (.loop (rc (if jump.isNone then .ready else .done) jump))).heap[w.heap.size]? = some (.deferred (some [])) := by
      intro jump hl3 hd3
      have hr := run_endRound (P := P) jump hl3
      refine ⟨?_, World.putObj_heap_same (Array.getElem?_eq_some_iff.1 hl3).1, (World.putObj_heap_other (by omega)).trans hd3⟩
      rw [hr, hrc]
    cases e with
    | normal =>
      obtain ⟨⟨k1, k2⟩, hi3⟩ := hp
      have hl3 := (k2 (w.heap.size + 1) (by omega) (by omega) (by omega)).trans hBl
      have hd3 := (k2 w.heap.size (by omega) (by omega) (by omega)).trans hBd
      obtain ⟨hr, hl4, hd4⟩ := fin none hl3 hd3
      have hlt3 := (Array.getElem?_eq_some_iff.1 hl3).1
      refine ⟨_, _, hr, .inl ⟨rfl, ⟨hI _ _ _ hi3 (below_put _ hlt3 (by omega)), hl4, hd4⟩, ?_⟩⟩
      refine ⟨by simp; omega, fun k hk hkC hkl => ?_⟩
      rw [World.putObj_heap_other hkl, k2 k (by omega) hkC hkC, hBo k hkl]
    | ret =>
      obtain ⟨hk3, hi3⟩ := hp
      have hl3 := hk3.same _ _ hBl rfl
      obtain ⟨hr, hl4, hd4⟩ := fin (some .ret) hl3 (hk3.same _ _ hBd rfl)
      exact ⟨_, _, hr, .inr ⟨rfl, .ret, hIx _ _ _ _ _ _ hi3 (by omega) hl3 rfl, hl4, hd4⟩⟩
    | exit id => exact hp.elim
    | goto t => exact hp.elim
    | panic ch => exact hp.elim
    | outgrown => exact hp.elim
  case behind =>
    rintro e Z ⟨⟨v, rfl⟩, ⟨i1, i2, i3⟩ | ⟨pre, hpre, c, i1, i2, i3⟩⟩
    · have hlt := (Array.getElem?_eq_some_iff.1 i2).1
      have hr := run_endLoop (P := P) i2 (by rw [hs0]; simp)
      rw [hp0] at hr
      exact ⟨none, _, hr, hdone _ _ (Nat.le_refl _) (hI _ _ _ i1 (below_put _ hlt (by omega))) ((World.putObj_heap_other (by omega)).trans i3)⟩
    · have hr := run_endLoop (P := P) i2 (by rw [hs0]; simp)
      rw [hp0] at hr
      exact ⟨some c, _, hr, hstop _ c pre _ (Nat.le_refl _) hpre (hIx _ _ _ _ _ _ i1 (by omega) i2 rfl) ((World.putObj_heap_other (by omega)).trans i3)⟩

end Go.Proofs.Ytebebcomhdjihaa

namespace Go.Proofs.Ytebebcomhdjihaa
open Go.RowKit Go.Shelf
set_option linter.unusedVariables false
attribute [local go_sem] Oper.semAt_some

def fitAll (m : Nat) (qs : List Qt) : List (List Int) := ((lay m 36).filter fun l => fitI (natL l) qs).map natL

def preN (m : Nat) (qs : List Qt) (d : Nat) : List (List Int) := (((lay m 36).take d).filter fun l => fitI (natL l) qs).map natL

theorem pre_zero (m : Nat) (qs : List Qt) : preN m qs 0 = [] := by simp [preN]

theorem pre_all {m : Nat} {qs : List Qt} {d : Nat} (h : (lay m 36).length ≤ d) : preN m qs d = fitAll m qs := by
  rw [preN, List.take_of_length_le h]; rfl

theorem pre_fit {m : Nat} {qs : List Qt} {d : Nat} {l : List Nat} (h : (lay m 36)[d]? = some l) (hf : fitI (natL l) qs = true) : preN m qs (d + 1) = preN m qs d ++ [natL l] := by
  rw [preN, preN, List.take_add_one, h, List.filter_append]
  simp [hf]

theorem pre_skip {m : Nat} {qs : List Qt} {d : Nat} {l : List Nat} (h : (lay m 36)[d]? = some l) (hf : fitI (natL l) qs = false) : preN m qs (d + 1) = preN m qs d := by
  rw [preN, preN, List.take_add_one, h, List.filter_append]
  simp [hf]

theorem pre_prefix (m : Nat) (qs : List Qt) (d : Nat) : preN m qs d <+: fitAll m qs := ((List.take_prefix d (lay m 36)).filter _).map _

def Held (w0 : World) (C : Nat) (A : World) : Prop := w0.heap.size ≤ A.heap.size ∧ ∀ k, k < w0.heap.size → k ≠ C → A.heap[k]? = w0.heap[k]?

theorem Held.below {w0 A A' : World} {C B : Nat} (h : Held w0 C A) (hb : Below B A A') (hB : w0.heap.size ≤ B) : Held w0 C A' :=
  ⟨Nat.le_trans h.1 hb.size, fun k hk hC => (hb.block k (by omega)).trans (h.2 k hk hC)⟩

theorem Held.kept {w0 A A' : World} {C l : Nat} (h : Held w0 C A) (hb : KeptBut C l A A') (hl : w0.heap.size ≤ l) : Held w0 C A' :=
  ⟨Nat.le_trans h.1 hb.1, fun k hk hC => (hb.2 k (by have := h.1; omega) hC (by omega)).trans (h.2 k hk hC)⟩

theorem Held.cell {w0 A : World} {C : Nat} (h : Held w0 C A) {p : Addr} (hp : p.block < w0.heap.size) (hC : p.block ≠ C) : A.cell? p = w0.cell? p := World.cell?_of_block (w := w0) (h.2 p.block hp hC)

def FwRel (W w0 : World) (C m : Nat) (qs : List Qt) (J : List (List Int) → World → Prop) (v : Value) (d : Nat) (t : Bool) (A : World) : Prop :=
  (∃ l, IOwn A W.heap.size v (natL l) ∧ (t = true → (lay m 36)[d]? = some l) ∧ (t = false → (lay m 36).length = d)) ∧ Held w0 C A ∧ J (preN m qs d) A ∧ W.heap.size ≤ A.heap.size

theorem own_kept {A A' : World} {base C l : Nat} {v : Value} {x : List Int} (h : IOwn A base v x) (k : KeptBut C l A A') (hC : C < base) (hl : l < base) : IOwn A' base v x :=
  h.keep ⟨k.1, fun g hg hlt => k.2 g hlt (by have := (h.ge g hg).1; omega) (by have := (h.ge g hg).1; omega)⟩

theorem FwRel.step {W w0 A A' : World} {C m d : Nat} {qs : List Qt} {J : List (List Int) → World → Prop} {v : Value} {l : List Nat} {e : Ending} (m1 : 1 ≤ m) (m4 : m ≤ 4) (hd : (lay m 36)[d]? = some l)
    (ho : IOwn A W.heap.size v (natL l)) (hh : Held w0 C A) (hj : J (preN m qs (d + 1)) A) (hs : W.heap.size ≤ A.heap.size) (hws : w0.heap.size ≤ W.heap.size) (hJ : Stays W.heap.size J) (h : StepPost W.heap.size v l A e A') :
    ∃ t, e = .returned (.bool t) ∧ FwRel W w0 C m qs J v (d + 1) t A' := by
  obtain ⟨t, l', rfl, hst, -, o, hgr, hz⟩ := h
  have hc := chain_at (chain_of m1 m4 (.inl rfl)) hd
  have hlt : d < (lay m 36).length := (List.getElem?_eq_some_iff.1 hd).1
  have hb : Below W.heap.size A A' := (Below.refl _ A).grown hgr hs (fun k hk => (ho.ge k hk).1)
  refine ⟨t, rfl, ⟨l', o, fun ht => ?_, fun ht => ?_⟩, hh.below hb hws, hJ _ _ _ hj hb, by omega⟩
  · subst ht; rw [← hc]; exact hst
  · subst ht
    have : (lay m 36)[d + 1]? = none := by rw [← hc]; exact hst
    have := List.getElem?_eq_none_iff.1 this
    omega

def fitT (B : Nat) : Value := .func (.func 90) #[] #[.pointer (some ⟨B, 0, none⟩)]

set_option maxHeartbeats 1000000 in
theorem fitTest_any (W : World) (v : Value) (m : List Int) (B : Nat) (u : Value) (qs : List Qt) (hB : W.cell? ⟨B, 0, none⟩ = some u) (hv : IRd W v m) (hu : QRd W u qs) (hm : Grs m) (hq : Qts qs) :
    Calls Try.prog 90 #[v, .pointer (some ⟨B, 0, none⟩)] W (BoolPost (fitI m qs) W) := by
  obtain ⟨A, c, rfl, hl, hmx, -⟩ := id hv
  obtain ⟨A2, c2, rfl, hl2, hmx2⟩ := hu.form
  have HV := Lib.hid hv
  have HU := Lib.hid hu
  have HM := Lib.hid hm
  have HQ := Lib.hid hq
  clear hm hq hv hu
  go_enter Try.func90, Try.ntmps90
  go_wp2_with fail
  refine (implFits_any _ _ _ m qs HV.out HU.out HM.out HQ.out).mono ?_
  rintro r w2 ⟨rfl, b2⟩
  have HB2 := Lib.hid b2
  clear b2
  go_wp2_with fail
  go_ret
  exact ⟨ret_bool rfl, HB2.out⟩

def FitW (W W' : World) (m : Int) (u : Value) : Prop :=
  Below W.heap.size W W' ∧ W'.heap.size = W.heap.size + 3 ∧ W'.cell? ⟨W.heap.size, 0, none⟩ = some u ∧ W'.cell? ⟨W.heap.size + 1, 0, none⟩ = some (.int .i64 m) ∧ W'.cell? ⟨W.heap.size + 1 + 1, 0, none⟩ = some (fitT W.heap.size)

theorem FitW.cells {W W' : World} {m : Int} {u : Value} (h : FitW W W' m u) {A : World} {B : Nat} (hb : Below B W' A) (hB : W.heap.size + 3 ≤ B) :
    A.cell? ⟨W.heap.size, 0, none⟩ = some u ∧ A.cell? ⟨W.heap.size + 1, 0, none⟩ = some (.int .i64 m) ∧ A.cell? ⟨W.heap.size + 1 + 1, 0, none⟩ = some (fitT W.heap.size) :=
  ⟨(hb.cell (p := ⟨W.heap.size, 0, none⟩) (show W.heap.size < B by omega)).trans h.2.2.1, (hb.cell (p := ⟨W.heap.size + 1, 0, none⟩) (show W.heap.size + 1 < B by omega)).trans h.2.2.2.1, (hb.cell (p := ⟨W.heap.size + 1 + 1, 0, none⟩) (show W.heap.size + 1 + 1 < B by omega)).trans h.2.2.2.2⟩

def fitV (b : Nat) : Value := .func (.func 98) #[] #[.pointer (some ⟨b, 0, none⟩), .pointer (some ⟨b + 1, 0, none⟩)]

theorem new_cell (W : World) (v : Value) (t : TypeId) : (W.alloc (.cells #[v] t)).cell? ⟨W.heap.size, 0, none⟩ = some v ∧ (W.alloc (.cells #[v] t)).frozen? ⟨W.heap.size, 0, none⟩ = false := ⟨by simp, by simp⟩

theorem old_cell {W : World} {b : Nat} {v : Value} (o : Obj) (h : W.cell? ⟨b, 0, none⟩ = some v) : (W.alloc o).cell? ⟨b, 0, none⟩ = some v :=
  (((Below.refl _ W).alloc (Nat.le_refl _) o).cell (p := ⟨b, 0, none⟩) (World.block_lt_of_cell? W _ h)).trans h

theorem old_frz {W : World} {b : Nat} {v : Value} (o : Obj) (h : W.cell? ⟨b, 0, none⟩ = some v) (hf : W.frozen? ⟨b, 0, none⟩ = false) : (W.alloc o).frozen? ⟨b, 0, none⟩ = false :=
  (((Below.refl _ W).alloc (Nat.le_refl _) o).frozen (p := ⟨b, 0, none⟩) (World.block_lt_of_cell? W _ h)).trans hf

set_option maxHeartbeats 1000000 in
theorem measuresWhere_any (W : World) (m : Int) (h : Value) (f : FuncId) (b : Nat) (hf : h = .func (.func f) #[] #[.pointer (some ⟨b, 0, none⟩)]) :
    Calls Try.prog 89 #[.int .i64 m, h] W fun r W' => r = .returned (fitV W.heap.size) ∧ (W.alloc (.cells #[.int .i64 m] 3)).alloc (.cells #[h] 104) = W' := by
  subst hf
  go_enter Try.func89, Try.ntmps89
  go_wp2
  go_ret
  exact ⟨rfl, rfl⟩

set_option maxHeartbeats 1000000 in
theorem fitting_any (W : World) (m : Int) (A : Option Addr) (len c : Nat) :
    Calls Try.prog 78 #[.int .i64 m, .slice A len c] W fun r W' => r = .returned (fitV (W.heap.size + 1)) ∧ FitW W W' m (.slice A len c) := by
  go_enter Try.func78, Try.ntmps78
  go_wp2_with fail
  refine (measuresWhere_any _ m _ _ _ rfl).mono ?_
  rintro r w2 ⟨rfl, hw2⟩
  have HF : Hid (FitW W w2 m (.slice A len c)) := Lib.hid (by
    have h1 := new_cell W (.slice A len c) 23
    have h2 := new_cell (W.alloc (.cells #[.slice A len c] 23)) (.int .i64 m) 3
    have h3 := new_cell ((W.alloc (.cells #[.slice A len c] 23)).alloc (.cells #[.int .i64 m] 3)) (fitT W.heap.size) 104
    rw [World.size_alloc] at h2
    rw [World.size_alloc, World.size_alloc] at h3
    rw [← hw2]
    exact ⟨(((Below.refl _ _).alloc (Nat.le_refl _) _).alloc (by simp) _).alloc (by simp; omega) _, by simp, old_cell _ (old_cell _ h1.1), old_cell _ h2.1, h3.1⟩)
  clear hw2
  unfold fitV
  go_wp2_with fail
  go_ret
  exact ⟨by simp [fitV], HF.out⟩

set_option maxRecDepth 100000 in
set_option maxHeartbeats 8000000 in
theorem fitWalk_any (n : Nat) (C b m : Nat) (u : Value) (qs : List Qt) (w0 : World) (hC0 : b ≠ C) (hC1 : b + 1 ≠ C) (hC2 : b + 1 + 1 ≠ C) (hC : C < w0.heap.size)
    (hcs : w0.cell? ⟨b, 0, none⟩ = some u ∧ w0.cell? ⟨b + 1, 0, none⟩ = some (.int .i64 (m : Int)) ∧ w0.cell? ⟨b + 1 + 1, 0, none⟩ = some (fitT b)) (hu : ∀ A, Held w0 C A → QRd A u qs) (hq : Qts qs) (m1 : 1 ≤ m) (m4 : m ≤ 4) :
    RowWalk n Try.prog 98 #[.pointer (some ⟨b + 1, 0, none⟩), .pointer (some ⟨b + 1 + 1, 0, none⟩)] C w0 (fitAll m qs) := by
  intro l J Jx W hW hl0 hl1 hJ hY h0
  have hWs := hW.size
  have HH : Held w0 C W := ⟨hW.size, fun k hk _ => hW.block k hk⟩
  obtain ⟨hb, hw, hh⟩ := hcs
  unfold fitT at hh
  have HB : Hid (∀ A, Held w0 C A → A.cell? ⟨b + 1, 0, none⟩ = some (.int .i64 (m : Int)) ∧ A.cell? ⟨b + 1 + 1, 0, none⟩ = some (.func (.func 90) #[] #[.pointer (some ⟨b, 0, none⟩)]) ∧ A.cell? ⟨b, 0, none⟩ = some u ∧ QRd A u qs) := Lib.hid (fun A hA =>
    ⟨(hA.cell (p := ⟨b + 1, 0, none⟩) (World.block_lt_of_cell? w0 _ hw) hC1).trans hw, (hA.cell (p := ⟨b + 1 + 1, 0, none⟩) (World.block_lt_of_cell? w0 _ hh) hC2).trans hh, (hA.cell (p := ⟨b, 0, none⟩) (World.block_lt_of_cell? w0 _ hb) hC0).trans hb, hu A hA⟩)
  have hcw := (HB.out W HH).1
  have HHH := Lib.hid HH
  have HQ := Lib.hid hq
  have HY := Lib.hid hY
  have HJ := Lib.hid hJ
  have HJ0 := Lib.hid h0
  have HC := Lib.hid hC
  have HL0 := Lib.hid hl0
  have HL1 := Lib.hid hl1
  have HWS := Lib.hid hWs
  clear HH hq hY hJ h0 hC hl0 hl1 hWs hW hw hb hh hu hC0 hC1 hC2
  refine callsIn_of_wp Try.func98 rfl trivial ?_ rfl
  simp only [Try.ntmps98, List.size_toArray, List.length_cons, List.length_nil, Nat.reduceAdd, Nat.reduceSub, Array.replicate_succ, Array.replicate_zero, List.push_toArray, List.append_toArray, List.nil_append, List.cons_append]
  gi_wp2_with fail
  refine ⟨trivial, (fun h => by cases h), (callsIn_wide.2 (leastMeasure_any W m m1 m4)).mono ?_⟩
  rintro e w3 ⟨v, rfl, o3, b3⟩
  have H0 : Hid (FwRel W w0 C m qs J v 0 true w3) := Lib.hid ⟨⟨_, o3, fun _ => by obtain ⟨k, rfl⟩ : ∃ k, m = k + 1 := ⟨m - 1, by omega⟩; exact lay_first k 36, fun h => by cases h⟩, HHH.out.below b3 HWS.out, by rw [pre_zero]; exact HJ.out _ _ _ HJ0.out b3, b3.size⟩
  clear o3 b3
  obtain ⟨L, hL⟩ : ∃ L, (lay m 36).length = L := ⟨_, rfl⟩
  have HL := Lib.hid hL
  clear hL
  gi_wp2_with fail
  gi_loopg [5] (L + 1) (fun gk s wr => ∃ (d : Nat) (t : Bool), gk = L + 1 - d ∧ d ≤ L ∧ s = .bool t ∧ Hid (FwRel W w0 C m qs J v d t wr))
  case atStart => exact ⟨0, true, by omega, Nat.zero_le _, rfl, H0⟩
  case round =>
    obtain ⟨d, t, hgk, hd, rfl, HF⟩ := hrel
    clear H0
    cases t
    · have HE : Hid (J (fitAll m qs) wr) := Lib.hid (by obtain ⟨⟨x, -, -, h2⟩, -, h3, -⟩ := HF.out; rw [← pre_all (d := d) (by rw [h2 rfl]; exact Nat.le_refl _)]; exact h3)
      gi_wp2_with fail
      go_end0
      exact ⟨⟨_, rfl⟩, .inl HE.out⟩
    · obtain ⟨⟨x, ox, hx, -⟩, hh, hj, hs⟩ := id HF.out
      have hx := hx rfl
      have HX := Lib.hid hx
      have HO := Lib.hid ox
      have HHD := Lib.hid hh
      have HJD := Lib.hid hj
      have HSZ := Lib.hid hs
      have hdL : d < L := by rw [← HL.out]; exact (List.getElem?_eq_some_iff.1 hx).1
      obtain ⟨hf1, hf2⟩ := lay_facts m1 hx
      have HF1 := Lib.hid hf1
      have HF2 := Lib.hid hf2
      have HG : Hid (Grs (natL x)) := Lib.hid (grs_of ((mea_lay (natL x)).2 ⟨by rw [natL_len]; omega, x, by rw [natL_len, hf1]; exact List.mem_of_getElem? hx, rfl⟩))
      have hcb := (HB.out wr hh).2.1
      have HBC := Lib.hid (HB.out wr hh).2.2.1
      have HU := Lib.hid (HB.out wr hh).2.2.2
      clear hx ox hh hj hs hf1 hf2
      obtain ⟨fb, hfb⟩ : ∃ fb, fitI (natL x) qs = fb := ⟨_, rfl⟩
      have HFB := Lib.hid hfb
      clear hfb
      gi_wp2_with fail
      refine ⟨trivial, (fun h => by cases h), (callsIn_wide.2 (fitTest_any wr v (natL x) b u qs HBC.out HO.out.rd HU.out HG.out HQ.out)).mono ?_⟩
      rintro e w5 ⟨rfl, b5⟩
      rw [HFB.out]
      have HO5 := Lib.hid (HO.out.keep (SameAt.of_below b5))
      have HH5 := Lib.hid (HHD.out.below b5 (Nat.le_trans HWS.out HSZ.out))
      have HJ5 := Lib.hid (HJ.out _ _ _ HJD.out (b5.mono HSZ.out))
      have HS5 : Hid (W.heap.size ≤ w5.heap.size) := Lib.hid (Nat.le_trans HSZ.out b5.size)
      clear b5
      cases fb
      · gi_wp2_with fail
        refine ⟨fun _ h => (by cases h), ?_⟩
        gi_wp2_with fail
        refine ⟨trivial, (fun h => by cases h), (callsIn_wide.2 (layNext_any w5 W.heap.size v x (by have := HF1.out; omega) (by have := HF1.out; omega) (by have := HF2.out; omega) HO5.out)).mono ?_⟩
        intro e w6 hstep
        obtain ⟨t', rfl, hW6⟩ := FwRel.step (qs := qs) (J := J) (W := W) (w0 := w0) (C := C) m1 m4 HX.out HO5.out HH5.out (by rw [pre_skip HX.out HFB.out]; exact HJ5.out) HS5.out HWS.out HJ.out hstep
        have HW6 := Lib.hid hW6
        clear hW6 hstep
        gi_wp2_with fail
        gi_roundg (L + 1 - (d + 1))
        case measure => omega
        case rel => exact ⟨d + 1, t', rfl, by omega, rfl, HW6⟩
      · obtain ⟨fn, tmps, assign, body, hy, hR⟩ := HY.out _ _ _ _ HJ5.out HS5.out HO5.out (by rw [← pre_fit HX.out HFB.out]; exact pre_prefix m qs (d + 1))
        have HR := Lib.hid hR
        clear hR
        gi_wp2_with fail
        refine ⟨(fun h => by cases h), HR.out.mono ?_⟩
        rintro e w6 (⟨rfl, hj6, hk6⟩ | ⟨rfl, hx6⟩)
        · have HO6 := Lib.hid (own_kept HO5.out hk6 (Nat.lt_of_lt_of_le HC.out HWS.out) HL1.out)
          have HH6 := Lib.hid (HH5.out.kept hk6 HL0.out)
          have HJ6 := Lib.hid hj6
          have HS6 : Hid (W.heap.size ≤ w6.heap.size) := Lib.hid (Nat.le_trans HS5.out hk6.1)
          clear hj6 hk6 hy HR
          gi_wp2_with fail
          refine ⟨trivial, (fun h => by cases h), (callsIn_wide.2 (layNext_any w6 W.heap.size v x (by have := HF1.out; omega) (by have := HF1.out; omega) (by have := HF2.out; omega) HO6.out)).mono ?_⟩
          intro e w7 hstep
          obtain ⟨t', rfl, hW6⟩ := FwRel.step (qs := qs) (J := J) (W := W) (w0 := w0) (C := C) m1 m4 HX.out HO6.out HH6.out (by rw [pre_fit HX.out HFB.out]; exact HJ6.out) HS6.out HWS.out HJ.out hstep
          have HW6 := Lib.hid hW6
          clear hW6 hstep
          gi_wp2_with fail
          gi_roundg (L + 1 - (d + 1))
          case measure => omega
          case rel => exact ⟨d + 1, t', rfl, by omega, rfl, HW6⟩
        · have HX6 := Lib.hid hx6
          clear hx6 hy HR
          gi_wp2_with fail
          refine bodyPost_ret (results_none rfl _ _ _) rfl ?_
          exact ⟨⟨_, rfl⟩, .inr ⟨_, by rw [← pre_fit HX.out HFB.out]; exact pre_prefix m qs (d + 1), HX6.out⟩⟩

end Go.Proofs.Ytebebcomhdjihaa

namespace Go.Proofs.Ytebebcomhdjihaa
open Go.RowKit Go.Shelf
set_option linter.unusedVariables false
attribute [local go_sem] Oper.semAt_some

end Go.Proofs.Ytebebcomhdjihaa

namespace Go.Proofs.Ytebebcomhdjihaa
open Go.RowKit Go.Shelf
set_option linter.unusedVariables false
attribute [local go_sem] Oper.semAt_some

theorem first_head {m : Nat} {qs : List Qt} {x : List Int} (h : [x] <+: fitAll m qs) : ∃ l, firstFit m qs = some l ∧ x = natL l := by
  obtain ⟨r, hr⟩ := h
  have h1 : (fitAll m qs).head? = some x := by rw [← hr]; rfl
  rw [fitAll, List.head?_map, List.head?_filter] at h1
  cases hf : (lay m 36).find? (fun l => fitI (natL l) qs) with
  | none => rw [hf] at h1; cases h1
  | some l => rw [hf] at h1; exact ⟨l, hf, (Option.some.inj h1).symm⟩

theorem first_empty {m : Nat} {qs : List Qt} (h : fitAll m qs = []) : firstFit m qs = none := by
  have h1 : (fitAll m qs).head? = none := by rw [h]; rfl
  rw [fitAll, List.head?_map, List.head?_filter] at h1
  cases hf : (lay m 36).find? (fun l => fitI (natL l) qs) with
  | none => exact hf
  | some l => rw [hf] at h1; cases h1

theorem first_is {n : Nat} {qs : List Qt} (h : bokB (n : Int) qs = true) {x : List Int} (hx : [x] <+: fitAll n qs) : firstB n qs = true ∧ firstR n qs = x := by
  obtain ⟨l, h1, rfl⟩ := first_head hx
  rw [firstB, firstR, h, Int.toNat_natCast, h1]
  exact ⟨rfl, rfl⟩

theorem first_isnt {n : Nat} {qs : List Qt} (h : bokB (n : Int) qs = true) (hx : fitAll n qs = []) : firstB n qs = false ∧ firstR n qs = [] := by
  rw [firstB, firstR, h, Int.toNat_natCast, first_empty hx]
  exact ⟨rfl, rfl⟩

def ResI (w : World) (x : Value) (t : Bool) (A : World) : Prop := A.cell? ⟨w.heap.size, 0, none⟩ = some x ∧ A.cell? ⟨w.heap.size + 1, 0, none⟩ = some (.bool t) ∧ A.frozen? ⟨w.heap.size, 0, none⟩ = false ∧ A.frozen? ⟨w.heap.size + 1, 0, none⟩ = false ∧ Below w.heap.size w A

def FirI (w : World) (pre : List (List Int)) (A : World) : Prop := pre = [] ∧ ResI w (.slice none 0 0) false A

def FirX (w : World) (c : Code) (pre : List (List Int)) (A : World) : Prop := c = .ret ∧ ∃ x v, pre = [x] ∧ ResI w v true A ∧ IOwn A w.heap.size v x

theorem res_below {w A A' : World} {x : Value} {t : Bool} {B : Nat} (h : ResI w x t A) (hb : Below B A A') (hB : w.heap.size + 2 ≤ B) : ResI w x t A' := by
  obtain ⟨h1, h2, h3, h4, h5⟩ := h
  exact ⟨(hb.cell (p := ⟨w.heap.size, 0, none⟩) (show w.heap.size < B by omega)).trans h1, (hb.cell (p := ⟨w.heap.size + 1, 0, none⟩) (show w.heap.size + 1 < B by omega)).trans h2, (hb.frozen (p := ⟨w.heap.size, 0, none⟩) (show w.heap.size < B by omega)).trans h3, (hb.frozen (p := ⟨w.heap.size + 1, 0, none⟩) (show w.heap.size + 1 < B by omega)).trans h4, h5.trans (hb.mono (by omega))⟩

theorem fir_stays {w : World} {B : Nat} (hB : w.heap.size + 2 ≤ B) : Stays B (FirI w) := by
  rintro pre A A' ⟨h1, h2⟩ hb
  exact ⟨h1, res_below h2 hb hB⟩

theorem own_cells {A : World} {base g : Nat} {v : Value} {x : List Int} (h : IOwn A base v x) (hg : v.ownBlock = some g) : ∃ o, A.heap[g]? = some o ∧ o.isCells = true := by
  rcases h.2 with ⟨rfl, h0⟩ | ⟨g', cap, cur, rfl, hlt, hh, -⟩
  · cases hg
  · obtain rfl : g' = g := Option.some.inj hg
    exact ⟨_, hh, rfl⟩

theorem own_putc {A : World} {base l : Nat} {v : Value} {x : List Int} {o : Obj} (o' : Obj) (h : IOwn A base v x) (hl : A.heap[l]? = some o) (ho : o.isCells = false) : IOwn (A.putObj l o') base v x :=
  h.keep ⟨by simp, fun g hg hlt => World.putObj_heap_other (by
    intro e; subst e
    obtain ⟨o2, h1, h2⟩ := own_cells h hg
    rw [hl] at h1
    obtain rfl := Option.some.inj h1
    rw [ho] at h2; cases h2)⟩

theorem fir_put {w A : World} {c : Code} {pre : List (List Int)} {l : Nat} {o : Obj} (o' : Obj) (h : FirX w c pre A) (hl : w.heap.size + 2 ≤ l) (ho : A.heap[l]? = some o) (hc : o.isCells = false) : FirX w c pre (A.putObj l o') := by
  obtain ⟨h1, x, v, h2, h3, h4⟩ := h
  exact ⟨h1, x, v, h2, res_below h3 (below_put o' (Array.getElem?_eq_some_iff.1 ho).1 (Nat.le_refl _)) hl, own_putc o' h4 ho hc⟩

theorem ofs_cell {W : World} {b : Nat} {v : Value} {u : Value} {b' : Nat} (h : W.cell? ⟨b, 0, none⟩ = some v) (hne : b ≠ b') : (W.setCell ⟨b', 0, none⟩ u).cell? ⟨b, 0, none⟩ = some v :=
  (World.cell?_of_block (w := W) (Below.heap_setCell W ⟨b', 0, none⟩ u b hne)).trans h

theorem own_slice {A : World} {base : Nat} {v : Value} {x : List Int} (h : IOwn A base v x) : ∃ a n c, v = .slice a n c := by
  rcases h.2 with ⟨rfl, h0⟩ | ⟨g', cap, cur, rfl, hlt, hh, -⟩
  · exact ⟨_, _, _, rfl⟩
  · exact ⟨_, _, _, rfl⟩

theorem own_far2 {A : World} {base b1 b2 B : Nat} {v y z : Value} {x : List Int} (h : IOwn A base v x) (h1 : b1 < base ∧ b2 < base) (hB : B ≤ base) : IOwn ((A.setCell ⟨b1, 0, none⟩ y).setCell ⟨b2, 0, none⟩ z) B v x :=
  (h.keep ⟨by simp [World.setCell], fun g hg hlt => by
    have := (h.ge g hg).1
    rw [Below.heap_setCell _ _ _ _ (show g ≠ b2 by omega), Below.heap_setCell _ _ _ _ (show g ≠ b1 by omega)]⟩).base hB

theorem res_set {w A : World} {x : Value} {t : Bool} (h : ResI w x t A) (y : Value) (s : Bool) : ResI w y s ((A.setCell ⟨w.heap.size, 0, none⟩ y).setCell ⟨w.heap.size + 1, 0, none⟩ (.bool s)) := by
  obtain ⟨h1, h2, h3, h4, h5⟩ := h
  have k1 : (A.setCell ⟨w.heap.size, 0, none⟩ y).cell? ⟨w.heap.size, 0, none⟩ = some y := World.cell?_setCell_same' _ _ _ (by rw [h1]; rfl)
  have k2 := ofs_cell (u := y) (b' := w.heap.size) h2 (by omega)
  refine ⟨ofs_cell k1 (by omega), World.cell?_setCell_same' _ _ _ (by rw [k2]; rfl), ?_, ?_, (h5.setCell (p := ⟨w.heap.size, 0, none⟩) (Nat.le_refl _) _).setCell (p := ⟨w.heap.size + 1, 0, none⟩) (Nat.le_succ _) _⟩
  · rw [World.frozen?_setCell, World.frozen?_setCell]; exact h3
  · rw [World.frozen?_setCell, World.frozen?_setCell]; exact h4

set_option maxRecDepth 100000 in
set_option maxHeartbeats 8000000 in
theorem implFirstMeasure_any (w : World) (n : Int) (v : Value) (qs : List Qt) (hv : QRd w v qs) :
    Calls Try.prog 65 #[.int .i64 n, v] w (RowOk w.heap.size (firstR n qs) (firstB n qs) w) := by
  obtain ⟨A, c, rfl, hl, hmx⟩ := hv.form
  obtain ⟨w1, hw1⟩ : ∃ w1, (w.alloc (.cells #[.slice none 0 0] 24)).alloc (.cells #[.bool false] 4) = w1 := ⟨_, rfl⟩
  have hsz1 : w1.heap.size = w.heap.size + 2 := by rw [← hw1]; simp
  have hB1 : Below w.heap.size w w1 := by rw [← hw1]; exact ((Below.refl _ _).alloc (Nat.le_refl _) _).alloc (by simp) _
  have hR1 : ResI w (.slice none 0 0) false w1 := by
    have h1 := new_cell w (.slice none 0 0) 24
    have h2 := new_cell (w.alloc (.cells #[.slice none 0 0] 24)) (.bool false) 4
    rw [World.size_alloc] at h2
    refine ⟨?_, ?_, ?_, ?_, hB1⟩
    · rw [← hw1]; exact old_cell _ h1.1
    · rw [← hw1]; exact h2.1
    · rw [← hw1]; exact old_frz _ h1.1 h1.2
    · rw [← hw1]; exact h2.2
  have HV := Lib.hid (hv.keep (SameAt.of_below hB1))
  have HV0 : Hid (∀ A', w.heap.size ≤ A'.heap.size → (∀ g, g < w.heap.size → A'.heap[g]? = w.heap[g]?) → QRd A' (.slice A qs.length c) qs) := Lib.hid (fun A' h1 h2 => hv.keep ⟨h1, fun g _ hlt => h2 g hlt⟩)
  have HB1 := Lib.hid hB1
  have HS1 := Lib.hid hsz1
  have HR1 := Lib.hid hR1
  have HW1 := Lib.hid hw1
  clear hv hsz1 hB1 hR1 hw1
  rcases Bool.eq_false_or_eq_true (bokB n qs) with h | h
  · have H := Lib.hid h
    have HQ := Lib.hid (qts_of h)
    have hw1 : 1 ≤ n := ((bokB_iff _ _).1 h).1.1
    have hw2 : n ≤ 4 := ((bokB_iff _ _).1 h).1.2
    obtain ⟨m, rfl⟩ : ∃ m : Nat, n = m := ⟨n.toNat, by omega⟩
    have hm1 : 1 ≤ m := by omega
    have hm4 : m ≤ 4 := by omega
    refine (callsIn_wide (n := 4)).1 ?_
    refine callsIn_of_wp_marks Try.func65 rfl trivial ?_ rfl
    simp only [Try.ntmps65, List.size_toArray, List.length_cons, List.length_nil, Nat.reduceAdd, Nat.reduceSub, Array.replicate_succ, Array.replicate_zero, List.push_toArray, List.append_toArray, List.nil_append, List.cons_append]
    gi_wp2_with fail
    rw [HW1.out]
    refine ⟨trivial, (callsIn_wide.2 (implBookOk_any _ _ _ _ HV.out)).mono ?_⟩
    rintro e w2 ⟨rfl, b2⟩
    rw [h]
    have HR2 := Lib.hid (res_below HR1.out b2 (by have := HS1.out; omega))
    have HB2 := Lib.hid b2.size
    have HBW := Lib.hid (HB1.out.trans (b2.mono HB1.out.size))
    have HV2 := Lib.hid (HV.out.keep (SameAt.of_below b2))
    clear b2 h
    gi_wp2_with fail
    refine ⟨trivial, (callsIn_wide.2 (fitting_any _ _ A _ c)).mono ?_⟩
    rintro e w5 ⟨rfl, hw5⟩
    obtain ⟨hB5, hsz5, hq0, hq1, hq2⟩ := hw5
    have HSW : Hid (w.heap.size + 2 ≤ w2.heap.size) := Lib.hid (by have := HS1.out; have := HB2.out; omega)
    have HS := Lib.hid hsz5
    have HR5 := Lib.hid (res_below HR2.out hB5 HSW.out)
    have HVX : Hid (∀ A', Held w5 w.heap.size A' → QRd A' (.slice A qs.length c) qs) := Lib.hid (fun A' hA => HV0.out A' (by have := hA.1; have := HS.out; have := HSW.out; omega) (fun g hg => by
      have h1 := hA.2 g (by have := HS.out; have := HSW.out; omega) (by omega)
      rw [h1, hB5.block g (by have := HSW.out; omega)]
      exact HBW.out.block g hg))
    have HW := Lib.hid (fitWalk_any 3 w.heap.size w2.heap.size m (.slice A qs.length c) qs w5 (by have := HSW.out; omega) (by have := HSW.out; omega) (by have := HSW.out; omega) (by have := HSW.out; omega) ⟨hq0, hq1, hq2⟩ (fun A' hA => HVX.out A' hA) HQ.out hm1 hm4)
    clear hsz5 hB5 hq0 hq1 hq2
    gi_wp2_with fail
    refine wpIn_rows (by omega) (gf := 98) (lb := #[.pointer (some ⟨w2.heap.size + 1, 0, none⟩), .pointer (some ⟨w2.heap.size + 1 + 1, 0, none⟩)]) rfl (enters_of Try.func98 (by kernel_rfl) rfl) HW.out (by have := HS.out; have := HSW.out; omega) rfl
      (FirI w) (FirX w) (fir_stays (by have := HS.out; have := HSW.out; omega)) (fun _ _ _ _ _ o' hx hl ho hc => fir_put o' hx (by have := HS.out; have := HSW.out; omega) ho hc) ⟨rfl, HR5.out⟩ ?round ?done ?stop
    case round =>
      intro l pre x v W hpre
      clear hpre
      gi_wp2_with fail
      refine ⟨trivial, ?_⟩
      rintro B ⟨rfl, hr⟩ hs ho
      obtain ⟨A2, n2, c3, rfl⟩ := own_slice ho
      have HR := Lib.hid hr
      have HO := Lib.hid ho
      obtain ⟨c1, c2, f1, f2, hb⟩ := id hr
      have c2' : (B.setCell ⟨w.heap.size, 0, none⟩ (.slice A2 n2 c3)).cell? ⟨w.heap.size + 1, 0, none⟩ = some (.bool false) := ofs_cell c2 (by omega)
      have f2' : (B.setCell ⟨w.heap.size, 0, none⟩ (.slice A2 n2 c3)).frozen? ⟨w.heap.size + 1, 0, none⟩ = false := by rw [World.frozen?_setCell]; exact f2
      clear hb hr ho hs
      gi_wp2_with fail
      refine ⟨(KeepsOthers.setCell _ _ _).trans (KeepsOthers.setCell _ _ _), rfl, x, _, rfl, res_set HR.out _ true, ?_⟩
      exact own_far2 HO.out ⟨by have := HS.out; have := HSW.out; omega, by have := HS.out; have := HSW.out; omega⟩ (by have := HS.out; have := HSW.out; omega)
    case done =>
      rintro D W hD ⟨hall, hr⟩ hK
      have HN := Lib.hid (first_isnt H.out hall)
      have HR := Lib.hid hr
      obtain ⟨c1, c2, f1, f2, hb⟩ := id hr
      have c2' : (W.setCell ⟨w.heap.size, 0, none⟩ (.slice none 0 0)).cell? ⟨w.heap.size + 1, 0, none⟩ = some (.bool false) := ofs_cell c2 (by omega)
      have f2' : (W.setCell ⟨w.heap.size, 0, none⟩ (.slice none 0 0)).frozen? ⟨w.heap.size + 1, 0, none⟩ = false := by rw [World.frozen?_setCell]; exact f2
      clear hb hr hall
      gi_wp2_with fail
      have hK2 := ((KeepsOthers.setCell W ⟨w.heap.size, 0, none⟩ (.slice none 0 0)).trans (KeepsOthers.setCell _ ⟨w.heap.size + 1, 0, none⟩ (.bool false))).same D _ hK rfl
      refine ⟨by simp, .inl ⟨_, _, rfl, run_takeDeferred hK2, ?_⟩⟩
      have hR := res_below (res_set HR.out (.slice none 0 0) false) (below_put (B := D) (.deferred none) (Array.getElem?_eq_some_iff.1 hK2).1 (Nat.le_refl _)) (by have := HS.out; have := HSW.out; omega)
      obtain ⟨d1, d2, -, -, hb⟩ := id hR
      refine ⟨.tuple #[.slice none 0 0, .bool false], by simp [results, Try.f65, go_sem, d1, d2], rowOk_ret HN.out.1 HN.out.2 (nil_own _ _) hb⟩
    case stop =>
      rintro D c pre W hD hpre ⟨rfl, x, v, rfl, hr, ho⟩ hK
      have HN := Lib.hid (first_is H.out hpre)
      have HR := Lib.hid hr
      have HO := Lib.hid ho
      clear hr ho hpre
      gi_wp2_with fail
      refine ⟨by simp, .inl ⟨_, _, rfl, run_takeDeferred hK, ?_⟩⟩
      have hR := res_below HR.out (below_put (B := D) (.deferred none) (Array.getElem?_eq_some_iff.1 hK).1 (Nat.le_refl _)) (by have := HS.out; have := HSW.out; omega)
      obtain ⟨d1, d2, -, -, hb⟩ := id hR
      refine ⟨.tuple #[v, .bool true], by simp [results, Try.f65, go_sem, d1, d2], rowOk_ret HN.out.1 HN.out.2 (own_putc _ HO.out hK rfl) hb⟩
  · have HN := Lib.hid (first_no h)
    refine (callsIn_wide (n := 4)).1 ?_
    refine callsIn_of_wp_marks Try.func65 rfl trivial ?_ rfl
    simp only [Try.ntmps65, List.size_toArray, List.length_cons, List.length_nil, Nat.reduceAdd, Nat.reduceSub, Array.replicate_succ, Array.replicate_zero, List.push_toArray, List.append_toArray, List.nil_append, List.cons_append]
    gi_wp2_with fail
    rw [HW1.out]
    refine ⟨trivial, (callsIn_wide.2 (implBookOk_any _ _ _ _ HV.out)).mono ?_⟩
    rintro e w2 ⟨rfl, b2⟩
    rw [h]
    have HR2 := Lib.hid (res_below HR1.out b2 (by have := HS1.out; omega))
    clear b2
    obtain ⟨c1, c2, f1, f2, hb⟩ := id HR2.out
    have c2' : (w2.setCell ⟨w.heap.size, 0, none⟩ (.slice none 0 0)).cell? ⟨w.heap.size + 1, 0, none⟩ = some (.bool false) := ofs_cell c2 (by omega)
    have f2' : (w2.setCell ⟨w.heap.size, 0, none⟩ (.slice none 0 0)).frozen? ⟨w.heap.size + 1, 0, none⟩ = false := by rw [World.frozen?_setCell]; exact f2
    clear hb
    gi_wp2_with fail
    have hR := res_set HR2.out (.slice none 0 0) false
    obtain ⟨d1, d2, -, -, hb⟩ := id hR
    refine ⟨.tuple #[.slice none 0 0, .bool false], by simp [results, Try.f65, go_sem, d1, d2], rowOk_ret HN.out.1 HN.out.2 (nil_own _ _) hb⟩

end Go.Proofs.Ytebebcomhdjihaa

namespace Go.Proofs.Ytebebcomhdjihaa
open Go.RowKit
set_option linter.unusedVariables false

theorem first_fair (n : Int) (qs : List Qt) : firstB n qs = fairB n qs := by
  rw [firstB, fairB, first_any]

set_option maxHeartbeats 1000000 in
theorem implFairOk_any (w : World) (n : Int) (v : Value) (qs : List Qt) (hv : QRd w v qs) :
    Calls Try.prog 38 #[.int .i64 n, v] w (BoolPost (fairB n qs) w) := by
  obtain ⟨A, c, rfl, hl, hmx⟩ := hv.form
  have HV := Lib.hid hv
  clear hv
  go_enter Try.func38, Try.ntmps38
  go_wp2_with fail
  refine (implFirstMeasure_any w n _ qs HV.out).mono ?_
  rintro r w2 ⟨u, rfl, o2, b2⟩
  have HB := Lib.hid b2
  clear b2 o2
  rw [first_fair]
  obtain ⟨t, ht⟩ : ∃ t, fairB n qs = t := ⟨_, rfl⟩
  rw [ht]
  have HT := Lib.hid ht
  clear ht
  go_wp2_with fail
  go_ret
  exact ⟨ret_bool HT.out.symm, HB.out⟩

end Go.Proofs.Ytebebcomhdjihaa

namespace Go.Proofs.Ytebebcomhdjihaa
open Go.RowKit
set_option linter.unusedVariables false

theorem stB_neg (x : Int) : stB (-x) = stB x := by
  rw [Bool.eq_iff_iff]
  unfold stB
  rw [inB_iff, inB_iff]
  omega

theorem plB_neg (p : Pl) : plB (p.1, p.2.map (fun x => -x)) = plB p := by
  unfold plB
  simp only [List.all_map, List.length_map]
  rw [show (stB ∘ fun x : Int => -x) = stB from funext stB_neg]

theorem plB_less {p : Pl} (h : plB p = true) (k : Nat) : plB (p.1.take k, p.2.take k) = true := by
  obtain ⟨h1, h2, h3⟩ := (plB_iff p).1 h
  rw [fairB, Bool.and_eq_true] at h3
  refine (plB_iff _).2 ⟨fun s hs => h1 s (List.mem_of_mem_take hs), by simp [h2], ?_⟩
  have hb := (bokB_iff _ _).1 h3.1
  have hb2 : bokB 4 (p.1.take k) = true := (bokB_iff _ _).2 ⟨hb.1, by simp; omega, fun q hq => hb.2.2 q (List.mem_of_mem_take hq)⟩
  show fairB 4 (p.1.take k) = true
  rw [fairB, hb2, any_sub (fun q hq => List.mem_of_mem_take hq) h3.2]; rfl

end Go.Proofs.Ytebebcomhdjihaa

namespace Go.Proofs.Ytebebcomhdjihaa
open Go.RowKit
set_option linter.unusedVariables false

def noDk : Dk := (([], []), [])

theorem DkOwn.nil (S : Nat → Prop) (w : World) (base : Nat) : DkOwn S w base (.slice none 0 0) (.slice none 0 0) (.slice none 0 0) noDk := ⟨PlRd.nil _ _, PsOwn.nil _ _ _⟩

theorem deskPost_own {d d' : Dk} {b b' : Bool} {w w' : World} {v u r : Value} (hd : d = d') (hb : b = b') (h : DkOwn (fun g => w.heap.size ≤ g ∧ g < w'.heap.size) w' w.heap.size v u r d') (hw : Below w.heap.size w w') : DeskPost d b w (.returned (.tuple #[.agg #[v, u, r], .bool b'])) w' := by
  subst hd hb
  exact ⟨v, u, r, rfl, h.rd, fun _ => h, hw⟩

set_option maxRecDepth 100000 in
set_option maxHeartbeats 8000000 in
theorem specDeskNew_any {S : Nat → Prop} (w : World) (v u : Value) (p : Pl) (h : PlRd S w v u p) (D : Dk) (hD : (if plB p = true then (p, []) else noDk) = D) :
    Calls Try.prog 15 #[.agg #[v, u]] w (DeskPost D (plB p) w) := by
  obtain ⟨W, hW⟩ : ∃ W, (w.alloc (.cells #[v, u] 26)).alloc (.cells #[.slice none 0 0, .slice none 0 0, .slice none 0 0] 29) = W := ⟨_, rfl⟩
  have f1 : Blk W w.heap.size 26 #[v, u] := by rw [← hW]; exact Blk.alloc (heap_alloc_new w _) _
  have f2 : Blk W (w.heap.size + 1) 29 #[.slice none 0 0, .slice none 0 0, .slice none 0 0] := by
    rw [← hW]
    have := heap_alloc_new (w.alloc (.cells #[v, u] 26)) (.cells #[.slice none 0 0, .slice none 0 0, .slice none 0 0] 29)
    rwa [World.size_alloc] at this
  have fB : Below w.heap.size w W := by rw [← hW]; exact ((Below.refl _ _).alloc (Nat.le_refl _) _).alloc (by rw [World.size_alloc]; omega) _
  have fz : w.heap.size + 1 < W.heap.size := f2.lt
  have FB0 := Lib.hid fB
  have F1 := Lib.hid f1
  have F2 := Lib.hid f2
  have HD : Hid (∀ X, Below W.heap.size W X → PlRd S X v u p) := Lib.hid (fun X hb => (h.below fB).below hb)
  have b0 : W.cell? ⟨w.heap.size, 0, none⟩ = some v := f1.cell 0
  have b1 : W.cell? ⟨w.heap.size, 1, none⟩ = some u := f1.cell 1
  have HDD := Lib.hid hD
  clear h f1 f2 fB hD
  obtain ⟨t, ht⟩ : ∃ t, plB p = t := ⟨_, rfl⟩
  have HT := Lib.hid ht
  clear ht
  go_enter Try.func15, Try.ntmps15
  go_wp2_with fail
  refine (specPlaceOk_any W v u p.1 p.2 (HD.out W (Below.refl _ _)).1.1 (HD.out W (Below.refl _ _)).2.1).mono ?_
  rintro ee w1 ⟨rfl, bb⟩
  rw [show plB (p.1, p.2) = t from HT.out]
  have HB1 := Lib.hid bb
  have zw := bb.size
  clear bb b0 b1 hW
  cases t
  · have HE : Hid (D = noDk) := Lib.hid (by rw [← HDD.out, HT.out]; rfl)
    have FR := F2.out.below15 HB1.out
    have z0 : w1.cell? ⟨w.heap.size + 1, 0, none⟩ = some (.slice none 0 0) := FR.cell 0
    have z1 : w1.cell? ⟨w.heap.size + 1, 1, none⟩ = some (.slice none 0 0) := FR.cell 1
    have z2 : w1.cell? ⟨w.heap.size + 1, 2, none⟩ = some (.slice none 0 0) := FR.cell 2
    have y0 := FR.frozen 0
    have y1 := FR.frozen 1
    have y2 := FR.frozen 2
    have gw : w1.grownBy (((w1.setCell ⟨w.heap.size + 1, 0, none⟩ (.slice none 0 0)).setCell ⟨w.heap.size + 1, 1, none⟩ (.slice none 0 0)).setCell ⟨w.heap.size + 1, 2, none⟩ (.slice none 0 0)) (some (w.heap.size + 1)) := set3_grown _ _ _ _ _
    have zsz : w1.heap.size ≤ (((w1.setCell ⟨w.heap.size + 1, 0, none⟩ (.slice none 0 0)).setCell ⟨w.heap.size + 1, 1, none⟩ (.slice none 0 0)).setCell ⟨w.heap.size + 1, 2, none⟩ (.slice none 0 0)).heap.size := gw.size
    have FZ : Blk (((w1.setCell ⟨w.heap.size + 1, 0, none⟩ (.slice none 0 0)).setCell ⟨w.heap.size + 1, 1, none⟩ (.slice none 0 0)).setCell ⟨w.heap.size + 1, 2, none⟩ (.slice none 0 0)) (w.heap.size + 1) 29 #[(.slice none 0 0), (.slice none 0 0), (.slice none 0 0)] := ((FR.set_ 0 _).set_ 1 _).set_ 2 _
    have RES : Hid (Below w.heap.size w (((w1.setCell ⟨w.heap.size + 1, 0, none⟩ (.slice none 0 0)).setCell ⟨w.heap.size + 1, 1, none⟩ (.slice none 0 0)).setCell ⟨w.heap.size + 1, 2, none⟩ (.slice none 0 0))) := Lib.hid ((below_step FB0.out HB1.out (show w.heap.size ≤ W.heap.size by omega)).grown gw (show w.heap.size ≤ w1.heap.size by omega) (fun g hg => by have := Option.some.inj hg; omega))
    clear FR gw
    go_wp2_with fail
    clear z0 z1 z2 y0 y1 y2
    generalize (((w1.setCell ⟨w.heap.size + 1, 0, none⟩ (.slice none 0 0)).setCell ⟨w.heap.size + 1, 1, none⟩ (.slice none 0 0)).setCell ⟨w.heap.size + 1, 2, none⟩ (.slice none 0 0)) = Z at *
    have d0 : Z.cell? ⟨w.heap.size + 1, 0, none⟩ = some (.slice none 0 0) := FZ.cell 0
    have d1 : Z.cell? ⟨w.heap.size + 1, 1, none⟩ = some (.slice none 0 0) := FZ.cell 1
    have d2 : Z.cell? ⟨w.heap.size + 1, 2, none⟩ = some (.slice none 0 0) := FZ.cell 2
    refine bodyPost_ret (v := .tuple #[.agg #[(.slice none 0 0), (.slice none 0 0), (.slice none 0 0)], .bool false]) (by simp [results, Try.results15, go_sem, d0, d1, d2]) rfl ?_
    exact deskPost_own HE.out HT.out (DkOwn.nil _ _ _) RES.out
  · have HE : Hid (D = (p, [])) := Lib.hid (by rw [← HDD.out, HT.out]; rfl)
    have HLEN := Lib.hid (pl_len HT.out)
    have b0 : w1.cell? ⟨w.heap.size, 0, none⟩ = some v := (F1.out.below15 HB1.out).cell 0
    have b1 : w1.cell? ⟨w.heap.size, 1, none⟩ = some u := (F1.out.below15 HB1.out).cell 1
    go_wp2_with fail
    refine (l15Place_any w1 v u p (HD.out w1 HB1.out) (by have := HLEN.out; omega) (by have := HLEN.out; omega)).mono ?_
    rintro ee w3 ⟨v1, u1, rfl, oq, oi, ond, b3⟩
    obtain ⟨A1, c1, rfl, -, -⟩ := (oq.rd qC_len).form
    obtain ⟨A5, c5, rfl, -, -, -⟩ := id oi.rd
    have zw3 := b3.size
    have PN9 : PlRd (fun g => W.heap.size ≤ g ∧ g < w3.heap.size) w3 (.slice A1 p.1.length c1) (.slice A5 p.2.length c5) p := pl_new oq oi (fun g h1 h2 => ⟨by omega, h2⟩)
    have PN := Lib.hid PN9
    have HB3 := Lib.hid b3
    have FR := (F2.out.below15 HB1.out).below15 b3
    clear oq oi ond PN9 b3 b0 b1
    have z0 : w3.cell? ⟨w.heap.size + 1, 0, none⟩ = some (.slice none 0 0) := FR.cell 0
    have z1 : w3.cell? ⟨w.heap.size + 1, 1, none⟩ = some (.slice none 0 0) := FR.cell 1
    have z2 : w3.cell? ⟨w.heap.size + 1, 2, none⟩ = some (.slice none 0 0) := FR.cell 2
    have y0 := FR.frozen 0
    have y1 := FR.frozen 1
    have y2 := FR.frozen 2
    have gw : w3.grownBy (((w3.setCell ⟨w.heap.size + 1, 0, none⟩ (.slice A1 p.1.length c1)).setCell ⟨w.heap.size + 1, 1, none⟩ (.slice A5 p.2.length c5)).setCell ⟨w.heap.size + 1, 2, none⟩ (.slice none 0 0)) (some (w.heap.size + 1)) := set3_grown _ _ _ _ _
    have zsz : w3.heap.size ≤ (((w3.setCell ⟨w.heap.size + 1, 0, none⟩ (.slice A1 p.1.length c1)).setCell ⟨w.heap.size + 1, 1, none⟩ (.slice A5 p.2.length c5)).setCell ⟨w.heap.size + 1, 2, none⟩ (.slice none 0 0)).heap.size := gw.size
    have FZ : Blk (((w3.setCell ⟨w.heap.size + 1, 0, none⟩ (.slice A1 p.1.length c1)).setCell ⟨w.heap.size + 1, 1, none⟩ (.slice A5 p.2.length c5)).setCell ⟨w.heap.size + 1, 2, none⟩ (.slice none 0 0)) (w.heap.size + 1) 29 #[(.slice A1 p.1.length c1), (.slice A5 p.2.length c5), (.slice none 0 0)] := ((FR.set_ 0 _).set_ 1 _).set_ 2 _
    have RES : Hid (DkOwn (fun g => w.heap.size ≤ g ∧ g < (((w3.setCell ⟨w.heap.size + 1, 0, none⟩ (.slice A1 p.1.length c1)).setCell ⟨w.heap.size + 1, 1, none⟩ (.slice A5 p.2.length c5)).setCell ⟨w.heap.size + 1, 2, none⟩ (.slice none 0 0)).heap.size) (((w3.setCell ⟨w.heap.size + 1, 0, none⟩ (.slice A1 p.1.length c1)).setCell ⟨w.heap.size + 1, 1, none⟩ (.slice A5 p.2.length c5)).setCell ⟨w.heap.size + 1, 2, none⟩ (.slice none 0 0)) w.heap.size (.slice A1 p.1.length c1) (.slice A5 p.2.length c5) (.slice none 0 0) (p, []) ∧ Below w.heap.size w (((w3.setCell ⟨w.heap.size + 1, 0, none⟩ (.slice A1 p.1.length c1)).setCell ⟨w.heap.size + 1, 1, none⟩ (.slice A5 p.2.length c5)).setCell ⟨w.heap.size + 1, 2, none⟩ (.slice none 0 0))) := Lib.hid ⟨⟨(PN.out.off gw (by rintro ⟨h1, -⟩; omega)).mono (fun g hg => ⟨⟨by omega, by omega⟩, fun e => by cases e⟩), PsOwn.nil _ _ _⟩, (below_step (below_step FB0.out HB1.out (show w.heap.size ≤ W.heap.size by omega)) HB3.out (show w.heap.size ≤ w1.heap.size by omega)).grown gw (show w.heap.size ≤ w3.heap.size by omega) (fun g hg => by have := Option.some.inj hg; omega)⟩
    clear FR gw
    go_wp2_with fail
    clear z0 z1 z2 y0 y1 y2
    generalize (((w3.setCell ⟨w.heap.size + 1, 0, none⟩ (.slice A1 p.1.length c1)).setCell ⟨w.heap.size + 1, 1, none⟩ (.slice A5 p.2.length c5)).setCell ⟨w.heap.size + 1, 2, none⟩ (.slice none 0 0)) = Z at *
    have d0 : Z.cell? ⟨w.heap.size + 1, 0, none⟩ = some (.slice A1 p.1.length c1) := FZ.cell 0
    have d1 : Z.cell? ⟨w.heap.size + 1, 1, none⟩ = some (.slice A5 p.2.length c5) := FZ.cell 1
    have d2 : Z.cell? ⟨w.heap.size + 1, 2, none⟩ = some (.slice none 0 0) := FZ.cell 2
    refine bodyPost_ret (v := .tuple #[.agg #[(.slice A1 p.1.length c1), (.slice A5 p.2.length c5), (.slice none 0 0)], .bool true]) (by simp [results, Try.results15, go_sem, d0, d1, d2]) rfl ?_
    exact deskPost_own HE.out HT.out RES.out.1 RES.out.2

end Go.Proofs.Ytebebcomhdjihaa
