/- Contracts on the walk over measures: spec: l4First, l4Step. Conditions: at most four worlds, at most 36 grains. Contracts on the walk over measures: spec: l4Step at any row; FirstMeasure, CountMeasures. Conditions: stated at each. Contracts on the walk over measures: spec: CountMeasures, l4Units, FairOk, MixedMeasure. Conditions: stated at each. -/
import Derived.Test.YteljcicdibbhdaaMb
import Derived.Deep.LoopGhost
import Derived.Test.YteljcicdibbhdaaGf
namespace Go.Proofs.Yteljcicdibbhdaa
open Go.RowKit
set_option linter.unusedVariables false

theorem IOwn.cellk {w : World} {base g n cap : Nat} {xs : List Int} (h : IOwn w base (.slice (some ⟨g, 0, none⟩) n cap) xs) {k : Nat} {x : Int} (hx : xs[k]? = some x) : w.cell? ⟨g, k, none⟩ = some (.int .i64 x) := by
  have := IRd.cellk h.rd hx
  rwa [Nat.zero_add] at this

theorem IOwn.frz {w : World} {base g n cap : Nat} {xs : List Int} (h : IOwn w base (.slice (some ⟨g, 0, none⟩) n cap) xs) (hn : xs.length = n) (k : Nat) : w.frozen? ⟨g, k, none⟩ = false := by
  subst hn
  unfold IOwn at h
  exact h.frozenAt k

theorem IOwn.set_ {w : World} {base g n cap : Nat} {xs : List Int} (h : IOwn w base (.slice (some ⟨g, 0, none⟩) n cap) xs) (hn : xs.length = n) (k : Nat) (x : Int) :
    IOwn (w.setCell ⟨g, k, none⟩ (.int .i64 x)) base (.slice (some ⟨g, 0, none⟩) n cap) (xs.set k x) ∧ w.grownBy (w.setCell ⟨g, k, none⟩ (.int .i64 x)) (some g) := by
  subst hn
  unfold IOwn at h ⊢
  obtain ⟨h1, h2⟩ := h.stored k (.int .i64 x)
  refine ⟨?_, h2⟩
  rw [List.length_set, List.map_set]
  exact h1

theorem IOwn.form {w : World} {base : Nat} {v : Value} {xs : List Int} (h : IOwn w base v xs) (hn : 0 < xs.length) : ∃ g cap, v = .slice (some ⟨g, 0, none⟩) xs.length cap ∧ xs.length ≤ cap ∧ cap ≤ 9223372036854775807 := by
  rcases h.2 with ⟨rfl, h0⟩ | ⟨g, cap, cur, rfl, -, -, h1, h2, -, -⟩
  · omega
  · exact ⟨g, cap, rfl, h1, by rw [maxLen_is] at h2; exact h2⟩

theorem grown_grown {w w1 w2 : World} {r : Option Nat} (h : w.grownBy w1 r) (k : w1.grownBy w2 r) : w.grownBy w2 r :=
  ⟨k.os.trans h.os, k.tape.trans h.tape, k.output.trans h.output, Nat.le_trans h.size k.size, fun i hi hne => (k.block i (by have := h.size; omega) hne).trans (h.block i hi hne)⟩

set_option maxHeartbeats 2000000 in
theorem l4First_any (w : World) (n g : Nat) (h1 : 1 ≤ n) (h4 : n ≤ 4) :
    Calls Try.prog 59 #[.int .i64 (n : Int), .int .i64 (g : Int)] w (NewInts (natL (firstL n g)) w) := by
  obtain ⟨i0, hi, hz0, hz1, hz2⟩ := info_parts Try_intinfo
  obtain rfl | rfl | rfl | rfl : n = 1 ∨ n = 2 ∨ n = 3 ∨ n = 4 := by omega
  · have hmk : ∀ w : World, (Instr.makeSlice 41 (.int .i64 1) (.int .i64 1)).run Try.prog w = .ok (.slice (some ⟨w.heap.size, 0, none⟩) 1 1) (w.alloc (.cells #[.int .i64 0] 3)) := by
      intro w
      have h := run_make (P := Try.prog) w 41 3 i0 (.int .i64 0) Try.underlying41 hi hz0 .i64 .i64 1 1 (by omega) (Int.le_refl _) (by rw [hz2]; omega) (by omega)
      rw [hz1] at h
      have e : madeCells (Value.int .i64 0).cells (Int.toNat 1 * 1) = #[.int .i64 0] := by kernel_rfl
      rw [e] at h
      exact h
    go_enter Try.func59, Try.ntmps59
    go_wp2
    go_ret
    refine ⟨_, rfl, ?_, by go_grown⟩
    exact World.ownsRow_lit w #[.int .i64 (g : Int)] 1 (Nat.le_refl _) (by unfold maxLen; omega) rfl
  · have hmk : ∀ w : World, (Instr.makeSlice 41 (.int .i64 2) (.int .i64 2)).run Try.prog w = .ok (.slice (some ⟨w.heap.size, 0, none⟩) 2 2) (w.alloc (.cells #[.int .i64 0, .int .i64 0] 3)) := by
      intro w
      have h := run_make (P := Try.prog) w 41 3 i0 (.int .i64 0) Try.underlying41 hi hz0 .i64 .i64 2 2 (by omega) (Int.le_refl _) (by rw [hz2]; omega) (by omega)
      rw [hz1] at h
      have e : madeCells (Value.int .i64 0).cells (Int.toNat 2 * 1) = #[.int .i64 0, .int .i64 0] := by kernel_rfl
      rw [e] at h
      exact h
    go_enter Try.func59, Try.ntmps59
    go_wp2
    go_ret
    refine ⟨_, rfl, ?_, by go_grown⟩
    exact World.ownsRow_lit w #[.int .i64 0, .int .i64 (g : Int)] 2 (Nat.le_refl _) (by unfold maxLen; omega) rfl
  · have hmk : ∀ w : World, (Instr.makeSlice 41 (.int .i64 3) (.int .i64 3)).run Try.prog w = .ok (.slice (some ⟨w.heap.size, 0, none⟩) 3 3) (w.alloc (.cells #[.int .i64 0, .int .i64 0, .int .i64 0] 3)) := by
      intro w
      have h := run_make (P := Try.prog) w 41 3 i0 (.int .i64 0) Try.underlying41 hi hz0 .i64 .i64 3 3 (by omega) (Int.le_refl _) (by rw [hz2]; omega) (by omega)
      rw [hz1] at h
      have e : madeCells (Value.int .i64 0).cells (Int.toNat 3 * 1) = #[.int .i64 0, .int .i64 0, .int .i64 0] := by kernel_rfl
      rw [e] at h
      exact h
    go_enter Try.func59, Try.ntmps59
    go_wp2
    go_ret
    refine ⟨_, rfl, ?_, by go_grown⟩
    exact World.ownsRow_lit w #[.int .i64 0, .int .i64 0, .int .i64 (g : Int)] 3 (Nat.le_refl _) (by unfold maxLen; omega) rfl
  · have hmk : ∀ w : World, (Instr.makeSlice 41 (.int .i64 4) (.int .i64 4)).run Try.prog w = .ok (.slice (some ⟨w.heap.size, 0, none⟩) 4 4) (w.alloc (.cells #[.int .i64 0, .int .i64 0, .int .i64 0, .int .i64 0] 3)) := by
      intro w
      have h := run_make (P := Try.prog) w 41 3 i0 (.int .i64 0) Try.underlying41 hi hz0 .i64 .i64 4 4 (by omega) (Int.le_refl _) (by rw [hz2]; omega) (by omega)
      rw [hz1] at h
      have e : madeCells (Value.int .i64 0).cells (Int.toNat 4 * 1) = #[.int .i64 0, .int .i64 0, .int .i64 0, .int .i64 0] := by kernel_rfl
      rw [e] at h
      exact h
    go_enter Try.func59, Try.ntmps59
    go_wp2
    go_ret
    refine ⟨_, rfl, ?_, by go_grown⟩
    exact World.ownsRow_lit w #[.int .i64 0, .int .i64 0, .int .i64 0, .int .i64 (g : Int)] 4 (Nat.le_refl _) (by unfold maxLen; omega) rfl

/-- the next way to lay grains, in its place; and whether there is one -/
def StepPost (base : Nat) (v : Value) (l : List Nat) (w : World) (e : Ending) (w' : World) : Prop :=
  ∃ (t : Bool) (l' : List Nat), e = .returned (.bool t) ∧ stepL l = (if t = true then some l' else none) ∧ (t = false → l' = l) ∧ IOwn w' base v (natL l') ∧ w.grownBy w' v.ownBlock ∧ w'.heap.size = w.heap.size

theorem step_yes {base g n cap : Nat} {l l' : List Nat} {w w1 w2 w3 : World} {xs : List Int} (hs : stepL l = some l') (g1 : w.grownBy w1 (some g)) (g2 : w1.grownBy w2 (some g)) (g3 : w2.grownBy w3 (some g)) (o : IOwn w3 base (.slice (some ⟨g, 0, none⟩) n cap) xs) (hx : xs = natL l') (hz : w3.heap.size = w.heap.size) :
    StepPost base (.slice (some ⟨g, 0, none⟩) n cap) l w (.returned (.bool true)) w3 := by
  subst hx
  exact ⟨true, l', rfl, hs, (fun h => by cases h), o, grown_grown (grown_grown g1 g2) g3, hz⟩

theorem step_no {base : Nat} {v : Value} {l : List Nat} {w : World} (hs : stepL l = none) (o : IOwn w base v (natL l)) : StepPost base v l w (.returned (.bool false)) w :=
  ⟨false, l, rfl, hs, fun _ => rfl, o, World.grownBy.refl _ _, rfl⟩

set_option maxHeartbeats 2000000 in
theorem step_1_0 (w : World) (base : Nat) (v : Value) (a : Nat) (ha : a ≤ 36) (hv : IOwn w base v (natL [a])) :
    Calls Try.prog 60 #[v] w (StepPost base v [a] w) := by
  obtain ⟨g, cap, rfl, hc1, hc2⟩ := hv.form (by simp [natL])
  have hn : (natL [a]).length = 1 := rfl
  rw [hn] at hc1 ⊢
  rw [hn] at hv
  have hc3 : (1 : Int) ≤ (cap : Int) := by omega
  have k0 : w.cell? ⟨g, 0, none⟩ = some (.int .i64 ((a : Nat) : Int)) := hv.cellk rfl
  have f0 : w.frozen? ⟨g, 0, none⟩ = false := hv.frz rfl 0
  have HR := Lib.hid (step_no (l := [a]) (by simp [stepL]) hv)
  clear hv
  go_enter Try.func60, Try.ntmps60
  go_wp2_with fail
  go_rounds 6
  go_ret
  exact HR.out

set_option maxHeartbeats 2000000 in
theorem step_2_1 (w : World) (base : Nat) (v : Value) (a b : Nat) (ha : a ≤ 36) (hb : b ≤ 36) (hv : IOwn w base v (natL [a, b + 1])) :
    Calls Try.prog 60 #[v] w (StepPost base v [a, b + 1] w) := by
  obtain ⟨g, cap, rfl, hc1, hc2⟩ := hv.form (by simp [natL])
  have hn : (natL [a, b + 1]).length = 2 := rfl
  rw [hn] at hc1 ⊢
  rw [hn] at hv
  have hc3 : (2 : Int) ≤ (cap : Int) := by omega
  have k0 : w.cell? ⟨g, 0, none⟩ = some (.int .i64 ((a : Nat) : Int)) := hv.cellk rfl
  have f0 : w.frozen? ⟨g, 0, none⟩ = false := hv.frz rfl 0
  have k1 : w.cell? ⟨g, 1, none⟩ = some (.int .i64 ((b + 1 : Nat) : Int)) := hv.cellk rfl
  have f1 : w.frozen? ⟨g, 1, none⟩ = false := hv.frz rfl 1
  obtain ⟨o1, g1⟩ := hv.set_ rfl 1 0
  obtain ⟨o2, g2⟩ := o1.set_ rfl 0 ((a : Int) + 1)
  obtain ⟨o3, g3⟩ := o2.set_ rfl 1 (b : Int)
  have HR := Lib.hid (step_yes (l := [a, b + 1]) (l' := [a + 1, b]) (by simp [stepL, firstL]) g1 g2 g3 o3 (by simp [natL]) (by simp [World.setCell]))
  have hne : (((b + 1 : Nat) : Int) == 0) = false := by rw [beq_eq_false_iff_ne]; omega
  have hne2 : (((b : Int) + 1) == 0) = false := by rw [beq_eq_false_iff_ne]; omega
  clear o1 o2 o3 g1 g2 g3 hv
  go_enter Try.func60, Try.ntmps60
  go_wp2_with fail
  go_rounds 6
  go_ret
  have h := HR.out
  simpa using h

set_option maxHeartbeats 2000000 in
theorem step_2_0 (w : World) (base : Nat) (v : Value) (a : Nat) (ha : a ≤ 36) (hv : IOwn w base v (natL [a, 0])) :
    Calls Try.prog 60 #[v] w (StepPost base v [a, 0] w) := by
  obtain ⟨g, cap, rfl, hc1, hc2⟩ := hv.form (by simp [natL])
  have hn : (natL [a, 0]).length = 2 := rfl
  rw [hn] at hc1 ⊢
  rw [hn] at hv
  have hc3 : (2 : Int) ≤ (cap : Int) := by omega
  have k0 : w.cell? ⟨g, 0, none⟩ = some (.int .i64 ((a : Nat) : Int)) := hv.cellk rfl
  have f0 : w.frozen? ⟨g, 0, none⟩ = false := hv.frz rfl 0
  have k1 : w.cell? ⟨g, 1, none⟩ = some (.int .i64 0) := hv.cellk rfl
  have f1 : w.frozen? ⟨g, 1, none⟩ = false := hv.frz rfl 1
  have HR := Lib.hid (step_no (l := [a, 0]) (by simp [stepL]) hv)
  clear hv
  go_enter Try.func60, Try.ntmps60
  go_wp2_with fail
  go_rounds 6
  go_ret
  exact HR.out

set_option maxHeartbeats 2000000 in
theorem step_3_2 (w : World) (base : Nat) (v : Value) (a b c : Nat) (ha : a ≤ 36) (hb : b ≤ 36) (hc : c ≤ 36) (hv : IOwn w base v (natL [a, b, c + 1])) :
    Calls Try.prog 60 #[v] w (StepPost base v [a, b, c + 1] w) := by
  obtain ⟨g, cap, rfl, hc1, hc2⟩ := hv.form (by simp [natL])
  have hn : (natL [a, b, c + 1]).length = 3 := rfl
  rw [hn] at hc1 ⊢
  rw [hn] at hv
  have hc3 : (3 : Int) ≤ (cap : Int) := by omega
  have k0 : w.cell? ⟨g, 0, none⟩ = some (.int .i64 ((a : Nat) : Int)) := hv.cellk rfl
  have f0 : w.frozen? ⟨g, 0, none⟩ = false := hv.frz rfl 0
  have k1 : w.cell? ⟨g, 1, none⟩ = some (.int .i64 ((b : Nat) : Int)) := hv.cellk rfl
  have f1 : w.frozen? ⟨g, 1, none⟩ = false := hv.frz rfl 1
  have k2 : w.cell? ⟨g, 2, none⟩ = some (.int .i64 ((c + 1 : Nat) : Int)) := hv.cellk rfl
  have f2 : w.frozen? ⟨g, 2, none⟩ = false := hv.frz rfl 2
  obtain ⟨o1, g1⟩ := hv.set_ rfl 2 0
  obtain ⟨o2, g2⟩ := o1.set_ rfl 1 ((b : Int) + 1)
  obtain ⟨o3, g3⟩ := o2.set_ rfl 2 (c : Int)
  have HR := Lib.hid (step_yes (l := [a, b, c + 1]) (l' := [a, b + 1, c]) (by simp [stepL, firstL]) g1 g2 g3 o3 (by simp [natL]) (by simp [World.setCell]))
  have hne : (((c + 1 : Nat) : Int) == 0) = false := by rw [beq_eq_false_iff_ne]; omega
  have hne2 : (((c : Int) + 1) == 0) = false := by rw [beq_eq_false_iff_ne]; omega
  clear o1 o2 o3 g1 g2 g3 hv
  go_enter Try.func60, Try.ntmps60
  go_wp2_with fail
  go_rounds 6
  go_ret
  have h := HR.out
  simpa using h

set_option maxHeartbeats 2000000 in
theorem step_3_1 (w : World) (base : Nat) (v : Value) (a b : Nat) (ha : a ≤ 36) (hb : b ≤ 36) (hv : IOwn w base v (natL [a, b + 1, 0])) :
    Calls Try.prog 60 #[v] w (StepPost base v [a, b + 1, 0] w) := by
  obtain ⟨g, cap, rfl, hc1, hc2⟩ := hv.form (by simp [natL])
  have hn : (natL [a, b + 1, 0]).length = 3 := rfl
  rw [hn] at hc1 ⊢
  rw [hn] at hv
  have hc3 : (3 : Int) ≤ (cap : Int) := by omega
  have k0 : w.cell? ⟨g, 0, none⟩ = some (.int .i64 ((a : Nat) : Int)) := hv.cellk rfl
  have f0 : w.frozen? ⟨g, 0, none⟩ = false := hv.frz rfl 0
  have k1 : w.cell? ⟨g, 1, none⟩ = some (.int .i64 ((b + 1 : Nat) : Int)) := hv.cellk rfl
  have f1 : w.frozen? ⟨g, 1, none⟩ = false := hv.frz rfl 1
  have k2 : w.cell? ⟨g, 2, none⟩ = some (.int .i64 0) := hv.cellk rfl
  have f2 : w.frozen? ⟨g, 2, none⟩ = false := hv.frz rfl 2
  obtain ⟨o1, g1⟩ := hv.set_ rfl 1 0
  obtain ⟨o2, g2⟩ := o1.set_ rfl 0 ((a : Int) + 1)
  obtain ⟨o3, g3⟩ := o2.set_ rfl 2 (b : Int)
  have HR := Lib.hid (step_yes (l := [a, b + 1, 0]) (l' := [a + 1, 0, b]) (by simp [stepL, firstL]) g1 g2 g3 o3 (by simp [natL]) (by simp [World.setCell]))
  have hne : (((b + 1 : Nat) : Int) == 0) = false := by rw [beq_eq_false_iff_ne]; omega
  have hne2 : (((b : Int) + 1) == 0) = false := by rw [beq_eq_false_iff_ne]; omega
  clear o1 o2 o3 g1 g2 g3 hv
  go_enter Try.func60, Try.ntmps60
  go_wp2_with fail
  go_rounds 6
  go_ret
  have h := HR.out
  simpa using h

set_option maxHeartbeats 2000000 in
theorem step_3_0 (w : World) (base : Nat) (v : Value) (a : Nat) (ha : a ≤ 36) (hv : IOwn w base v (natL [a, 0, 0])) :
    Calls Try.prog 60 #[v] w (StepPost base v [a, 0, 0] w) := by
  obtain ⟨g, cap, rfl, hc1, hc2⟩ := hv.form (by simp [natL])
  have hn : (natL [a, 0, 0]).length = 3 := rfl
  rw [hn] at hc1 ⊢
  rw [hn] at hv
  have hc3 : (3 : Int) ≤ (cap : Int) := by omega
  have k0 : w.cell? ⟨g, 0, none⟩ = some (.int .i64 ((a : Nat) : Int)) := hv.cellk rfl
  have f0 : w.frozen? ⟨g, 0, none⟩ = false := hv.frz rfl 0
  have k1 : w.cell? ⟨g, 1, none⟩ = some (.int .i64 0) := hv.cellk rfl
  have f1 : w.frozen? ⟨g, 1, none⟩ = false := hv.frz rfl 1
  have k2 : w.cell? ⟨g, 2, none⟩ = some (.int .i64 0) := hv.cellk rfl
  have f2 : w.frozen? ⟨g, 2, none⟩ = false := hv.frz rfl 2
  have HR := Lib.hid (step_no (l := [a, 0, 0]) (by simp [stepL]) hv)
  clear hv
  go_enter Try.func60, Try.ntmps60
  go_wp2_with fail
  go_rounds 6
  go_ret
  exact HR.out

set_option maxHeartbeats 2000000 in
theorem step_4_3 (w : World) (base : Nat) (v : Value) (a b c d : Nat) (ha : a ≤ 36) (hb : b ≤ 36) (hc : c ≤ 36) (hd : d ≤ 36) (hv : IOwn w base v (natL [a, b, c, d + 1])) :
    Calls Try.prog 60 #[v] w (StepPost base v [a, b, c, d + 1] w) := by
  obtain ⟨g, cap, rfl, hc1, hc2⟩ := hv.form (by simp [natL])
  have hn : (natL [a, b, c, d + 1]).length = 4 := rfl
  rw [hn] at hc1 ⊢
  rw [hn] at hv
  have hc3 : (4 : Int) ≤ (cap : Int) := by omega
  have k0 : w.cell? ⟨g, 0, none⟩ = some (.int .i64 ((a : Nat) : Int)) := hv.cellk rfl
  have f0 : w.frozen? ⟨g, 0, none⟩ = false := hv.frz rfl 0
  have k1 : w.cell? ⟨g, 1, none⟩ = some (.int .i64 ((b : Nat) : Int)) := hv.cellk rfl
  have f1 : w.frozen? ⟨g, 1, none⟩ = false := hv.frz rfl 1
  have k2 : w.cell? ⟨g, 2, none⟩ = some (.int .i64 ((c : Nat) : Int)) := hv.cellk rfl
  have f2 : w.frozen? ⟨g, 2, none⟩ = false := hv.frz rfl 2
  have k3 : w.cell? ⟨g, 3, none⟩ = some (.int .i64 ((d + 1 : Nat) : Int)) := hv.cellk rfl
  have f3 : w.frozen? ⟨g, 3, none⟩ = false := hv.frz rfl 3
  obtain ⟨o1, g1⟩ := hv.set_ rfl 3 0
  obtain ⟨o2, g2⟩ := o1.set_ rfl 2 ((c : Int) + 1)
  obtain ⟨o3, g3⟩ := o2.set_ rfl 3 (d : Int)
  have HR := Lib.hid (step_yes (l := [a, b, c, d + 1]) (l' := [a, b, c + 1, d]) (by simp [stepL, firstL]) g1 g2 g3 o3 (by simp [natL]) (by simp [World.setCell]))
  have hne : (((d + 1 : Nat) : Int) == 0) = false := by rw [beq_eq_false_iff_ne]; omega
  have hne2 : (((d : Int) + 1) == 0) = false := by rw [beq_eq_false_iff_ne]; omega
  clear o1 o2 o3 g1 g2 g3 hv
  go_enter Try.func60, Try.ntmps60
  go_wp2_with fail
  go_rounds 6
  go_ret
  have h := HR.out
  simpa using h

set_option maxHeartbeats 2000000 in
theorem step_4_2 (w : World) (base : Nat) (v : Value) (a b c : Nat) (ha : a ≤ 36) (hb : b ≤ 36) (hc : c ≤ 36) (hv : IOwn w base v (natL [a, b, c + 1, 0])) :
    Calls Try.prog 60 #[v] w (StepPost base v [a, b, c + 1, 0] w) := by
  obtain ⟨g, cap, rfl, hc1, hc2⟩ := hv.form (by simp [natL])
  have hn : (natL [a, b, c + 1, 0]).length = 4 := rfl
  rw [hn] at hc1 ⊢
  rw [hn] at hv
  have hc3 : (4 : Int) ≤ (cap : Int) := by omega
  have k0 : w.cell? ⟨g, 0, none⟩ = some (.int .i64 ((a : Nat) : Int)) := hv.cellk rfl
  have f0 : w.frozen? ⟨g, 0, none⟩ = false := hv.frz rfl 0
  have k1 : w.cell? ⟨g, 1, none⟩ = some (.int .i64 ((b : Nat) : Int)) := hv.cellk rfl
  have f1 : w.frozen? ⟨g, 1, none⟩ = false := hv.frz rfl 1
  have k2 : w.cell? ⟨g, 2, none⟩ = some (.int .i64 ((c + 1 : Nat) : Int)) := hv.cellk rfl
  have f2 : w.frozen? ⟨g, 2, none⟩ = false := hv.frz rfl 2
  have k3 : w.cell? ⟨g, 3, none⟩ = some (.int .i64 0) := hv.cellk rfl
  have f3 : w.frozen? ⟨g, 3, none⟩ = false := hv.frz rfl 3
  obtain ⟨o1, g1⟩ := hv.set_ rfl 2 0
  obtain ⟨o2, g2⟩ := o1.set_ rfl 1 ((b : Int) + 1)
  obtain ⟨o3, g3⟩ := o2.set_ rfl 3 (c : Int)
  have HR := Lib.hid (step_yes (l := [a, b, c + 1, 0]) (l' := [a, b + 1, 0, c]) (by simp [stepL, firstL]) g1 g2 g3 o3 (by simp [natL]) (by simp [World.setCell]))
  have hne : (((c + 1 : Nat) : Int) == 0) = false := by rw [beq_eq_false_iff_ne]; omega
  have hne2 : (((c : Int) + 1) == 0) = false := by rw [beq_eq_false_iff_ne]; omega
  clear o1 o2 o3 g1 g2 g3 hv
  go_enter Try.func60, Try.ntmps60
  go_wp2_with fail
  go_rounds 6
  go_ret
  have h := HR.out
  simpa using h

set_option maxHeartbeats 2000000 in
theorem step_4_1 (w : World) (base : Nat) (v : Value) (a b : Nat) (ha : a ≤ 36) (hb : b ≤ 36) (hv : IOwn w base v (natL [a, b + 1, 0, 0])) :
    Calls Try.prog 60 #[v] w (StepPost base v [a, b + 1, 0, 0] w) := by
  obtain ⟨g, cap, rfl, hc1, hc2⟩ := hv.form (by simp [natL])
  have hn : (natL [a, b + 1, 0, 0]).length = 4 := rfl
  rw [hn] at hc1 ⊢
  rw [hn] at hv
  have hc3 : (4 : Int) ≤ (cap : Int) := by omega
  have k0 : w.cell? ⟨g, 0, none⟩ = some (.int .i64 ((a : Nat) : Int)) := hv.cellk rfl
  have f0 : w.frozen? ⟨g, 0, none⟩ = false := hv.frz rfl 0
  have k1 : w.cell? ⟨g, 1, none⟩ = some (.int .i64 ((b + 1 : Nat) : Int)) := hv.cellk rfl
  have f1 : w.frozen? ⟨g, 1, none⟩ = false := hv.frz rfl 1
  have k2 : w.cell? ⟨g, 2, none⟩ = some (.int .i64 0) := hv.cellk rfl
  have f2 : w.frozen? ⟨g, 2, none⟩ = false := hv.frz rfl 2
  have k3 : w.cell? ⟨g, 3, none⟩ = some (.int .i64 0) := hv.cellk rfl
  have f3 : w.frozen? ⟨g, 3, none⟩ = false := hv.frz rfl 3
  obtain ⟨o1, g1⟩ := hv.set_ rfl 1 0
  obtain ⟨o2, g2⟩ := o1.set_ rfl 0 ((a : Int) + 1)
  obtain ⟨o3, g3⟩ := o2.set_ rfl 3 (b : Int)
  have HR := Lib.hid (step_yes (l := [a, b + 1, 0, 0]) (l' := [a + 1, 0, 0, b]) (by simp [stepL, firstL]) g1 g2 g3 o3 (by simp [natL]) (by simp [World.setCell]))
  have hne : (((b + 1 : Nat) : Int) == 0) = false := by rw [beq_eq_false_iff_ne]; omega
  have hne2 : (((b : Int) + 1) == 0) = false := by rw [beq_eq_false_iff_ne]; omega
  clear o1 o2 o3 g1 g2 g3 hv
  go_enter Try.func60, Try.ntmps60
  go_wp2_with fail
  go_rounds 6
  go_ret
  have h := HR.out
  simpa using h

set_option maxHeartbeats 2000000 in
theorem step_4_0 (w : World) (base : Nat) (v : Value) (a : Nat) (ha : a ≤ 36) (hv : IOwn w base v (natL [a, 0, 0, 0])) :
    Calls Try.prog 60 #[v] w (StepPost base v [a, 0, 0, 0] w) := by
  obtain ⟨g, cap, rfl, hc1, hc2⟩ := hv.form (by simp [natL])
  have hn : (natL [a, 0, 0, 0]).length = 4 := rfl
  rw [hn] at hc1 ⊢
  rw [hn] at hv
  have hc3 : (4 : Int) ≤ (cap : Int) := by omega
  have k0 : w.cell? ⟨g, 0, none⟩ = some (.int .i64 ((a : Nat) : Int)) := hv.cellk rfl
  have f0 : w.frozen? ⟨g, 0, none⟩ = false := hv.frz rfl 0
  have k1 : w.cell? ⟨g, 1, none⟩ = some (.int .i64 0) := hv.cellk rfl
  have f1 : w.frozen? ⟨g, 1, none⟩ = false := hv.frz rfl 1
  have k2 : w.cell? ⟨g, 2, none⟩ = some (.int .i64 0) := hv.cellk rfl
  have f2 : w.frozen? ⟨g, 2, none⟩ = false := hv.frz rfl 2
  have k3 : w.cell? ⟨g, 3, none⟩ = some (.int .i64 0) := hv.cellk rfl
  have f3 : w.frozen? ⟨g, 3, none⟩ = false := hv.frz rfl 3
  have HR := Lib.hid (step_no (l := [a, 0, 0, 0]) (by simp [stepL]) hv)
  clear hv
  go_enter Try.func60, Try.ntmps60
  go_wp2_with fail
  go_rounds 6
  go_ret
  exact HR.out

end Go.Proofs.Yteljcicdibbhdaa

namespace Go.Proofs.Yteljcicdibbhdaa
open Go.RowKit
set_option linter.unusedVariables false

theorem l4Step_any (w : World) (base : Nat) (v : Value) (l : List Nat) (h1 : 1 ≤ l.length) (h4 : l.length ≤ 4) (hs : l.sum ≤ 36) (hv : IOwn w base v (natL l)) :
    Calls Try.prog 60 #[v] w (StepPost base v l w) := by
  match l, h1, h4, hs, hv with
  | [a], h1, h4, hs, hv =>
    simp only [List.sum_cons, List.sum_nil] at hs
    exact step_1_0 w base v a (by omega) hv
  | [a, b], h1, h4, hs, hv =>
    simp only [List.sum_cons, List.sum_nil] at hs
    cases b with
    | zero =>
      exact step_2_0 w base v a (by omega) hv
    | succ b => exact step_2_1 w base v a b (by omega) (by omega) hv
  | [a, b, c], h1, h4, hs, hv =>
    simp only [List.sum_cons, List.sum_nil] at hs
    cases c with
    | zero =>
      cases b with
      | zero =>
        exact step_3_0 w base v a (by omega) hv
      | succ b => exact step_3_1 w base v a b (by omega) (by omega) hv
    | succ c => exact step_3_2 w base v a b c (by omega) (by omega) (by omega) hv
  | [a, b, c, d], h1, h4, hs, hv =>
    simp only [List.sum_cons, List.sum_nil] at hs
    cases d with
    | zero =>
      cases c with
      | zero =>
        cases b with
        | zero =>
          exact step_4_0 w base v a (by omega) hv
        | succ b => exact step_4_1 w base v a b (by omega) (by omega) hv
      | succ c => exact step_4_2 w base v a b c (by omega) (by omega) (by omega) hv
    | succ d => exact step_4_3 w base v a b c d (by omega) (by omega) (by omega) (by omega) hv

/-- where the walk over the ways to lay g grains stands: at the d-th, or past the last -/
def WkRel (B : World) (n g : Nat) (v : Value) (d : Nat) (t : Bool) (wr : World) : Prop :=
  Below B.heap.size B wr ∧ ∃ l, IOwn wr B.heap.size v (natL l) ∧ (t = true → (lay n g)[d]? = some l) ∧ (t = false → (lay n g).length = d)

theorem lay_facts {n g d : Nat} {l : List Nat} (h1 : 1 ≤ n) (h : (lay n g)[d]? = some l) : l.length = n ∧ l.sum = g := by
  obtain ⟨k, rfl⟩ : ∃ k, n = k + 1 := ⟨n - 1, by omega⟩
  exact (mem_lay k g l).1 (List.mem_of_getElem? h)

theorem WkRel.keep {B wr w' : World} {n g d : Nat} {v : Value} {t : Bool} (h : WkRel B n g v d t wr) (hb : Below wr.heap.size wr w') : WkRel B n g v d t w' := by
  obtain ⟨h1, l, h2, h3, h4⟩ := h
  exact ⟨below_step h1 hb h1.size, l, h2.keep (SameAt.of_below hb), h3, h4⟩

theorem WkRel.start {B w' : World} {n g : Nat} {v : Value} (h1 : 1 ≤ n) (o : IOwn w' B.heap.size v (natL (firstL n g))) (hb : Below B.heap.size B w') : WkRel B n g v 0 true w' := by
  obtain ⟨k, rfl⟩ : ∃ k, n = k + 1 := ⟨n - 1, by omega⟩
  exact ⟨hb, _, o, fun _ => lay_first k g, fun h => by cases h⟩

/-- a step -/
theorem WkRel.step {B wr w' : World} {n g d : Nat} {v : Value} {l : List Nat} {e : Ending} (h1 : 1 ≤ n) (h4 : n ≤ 4) (hg : g = 36 ∨ g = 18 ∨ g = 12 ∨ g = 6) (hb : Below B.heap.size B wr) (hd : (lay n g)[d]? = some l)
    (h : StepPost B.heap.size v l wr e w') : ∃ t, e = .returned (.bool t) ∧ WkRel B n g v (d + 1) t w' := by
  obtain ⟨t, l', rfl, hs, -, o, hgr, hz⟩ := h
  have hc := chain_at (chain_of h1 h4 hg) hd
  have hlt : d < (lay n g).length := (List.getElem?_eq_some_iff.1 hd).1
  refine ⟨t, rfl, hb.grown hgr hb.size (fun k hk => (o.ge k hk).1), l', o, fun ht => ?_, fun ht => ?_⟩
  · subst ht; rw [← hc]; exact hs
  · subst ht
    have : (lay n g)[d + 1]? = none := by rw [← hc]; exact hs
    have := List.getElem?_eq_none_iff.1 this
    omega

theorem find_at {α : Type} {p : α → Bool} {L : List α} {d : Nat} {l : α} (h : ∀ j, j < d → ∀ x, L[j]? = some x → p x = false) (hd : L[d]? = some l) (hp : p l = true) : L.find? p = some l := by
  induction L generalizing d with
  | nil => simp at hd
  | cons x L ih =>
    cases d with
    | zero => simp at hd; subst hd; rw [List.find?_cons, hp]
    | succ d =>
      have hx := h 0 (by omega) x rfl
      rw [List.find?_cons, hx]
      exact ih (d := d) (fun j hj y hy => h (j + 1) (Nat.succ_lt_succ hj) y (by simpa using hy)) (by simpa using hd)

theorem find_none {α : Type} {p : α → Bool} {L : List α} (h : ∀ j, j < L.length → ∀ x, L[j]? = some x → p x = false) : L.find? p = none := by
  rw [List.find?_eq_none]
  intro x hx
  obtain ⟨j, hj, e⟩ := List.getElem_of_mem hx
  have := h j hj x (by rw [← e]; exact List.getElem?_eq_getElem hj)
  simp [this]

def firstB (n : Int) (qs : List Qt) : Bool := bokB n qs && (firstFit n.toNat qs).isSome

def firstR (n : Int) (qs : List Qt) : List Int := if bokB n qs = true then ((firstFit n.toNat qs).map natL).getD [] else []

theorem first_no {n : Int} {qs : List Qt} (h : bokB n qs = false) : firstB n qs = false ∧ firstR n qs = [] := by
  constructor
  · rw [firstB, h]; rfl
  · rw [firstR, h]; rfl

theorem first_at {n : Nat} {qs : List Qt} (h : bokB (n : Int) qs = true) {d : Nat} {l : List Nat} (hno : ∀ j, j < d → ∀ x, (lay n 36)[j]? = some x → fitI (natL x) qs = false) (hd : (lay n 36)[d]? = some l) (hp : fitI (natL l) qs = true) :
    firstB n qs = true ∧ firstR n qs = natL l := by
  have hf : firstFit n qs = some l := find_at hno hd hp
  rw [firstB, firstR, h, Int.toNat_natCast, hf]
  exact ⟨rfl, rfl⟩

theorem first_none {n : Nat} {qs : List Qt} (h : bokB (n : Int) qs = true) (hno : ∀ j, j < (lay n 36).length → ∀ x, (lay n 36)[j]? = some x → fitI (natL x) qs = false) : firstB n qs = false ∧ firstR n qs = [] := by
  have hf : firstFit n qs = none := find_none hno
  rw [firstB, firstR, h, Int.toNat_natCast, hf]
  exact ⟨rfl, rfl⟩

end Go.Proofs.Yteljcicdibbhdaa

namespace Go.Proofs.Yteljcicdibbhdaa
open Go.RowKit
set_option linter.unusedVariables false

/-- how many of the first d fit -/
def cntI (n : Nat) (qs : List Qt) (d : Nat) : Int := ((((lay n 36).take d).filter fun l => fitI (natL l) qs).length : Nat)

theorem cnt_step {n : Nat} {qs : List Qt} {d : Nat} {l : List Nat} (h : (lay n 36)[d]? = some l) : cntI n qs (d + 1) = cntI n qs d + (if fitI (natL l) qs = true then 1 else 0) := by
  unfold cntI
  rw [List.take_add_one, h, List.filter_append]
  cases hf : fitI (natL l) qs <;> simp [hf]

theorem cnt_le (n : Nat) (qs : List Qt) (d : Nat) : 0 ≤ cntI n qs d ∧ cntI n qs d ≤ d := by
  have h1 : (((lay n 36).take d).filter fun l => fitI (natL l) qs).length ≤ d := Nat.le_trans (List.length_filter_le _ _) (by simp; omega)
  unfold cntI; omega

/-- how many measures fit; -1 for others -/
def countI (n : Int) (qs : List Qt) : Int := if bokB n qs = true then (countFit n.toNat qs : Int) else -1

theorem count_yes {n : Nat} {qs : List Qt} (h : bokB (n : Int) qs = true) {d : Nat} (hd : (lay n 36).length ≤ d) : countI n qs = cntI n qs d := by
  rw [countI, if_pos h, Int.toNat_natCast, cntI, List.take_of_length_le hd]; rfl

theorem count_no {n : Int} {qs : List Qt} (h : bokB n qs = false) : countI n qs = -1 := by rw [countI, h]; rfl

end Go.Proofs.Yteljcicdibbhdaa
