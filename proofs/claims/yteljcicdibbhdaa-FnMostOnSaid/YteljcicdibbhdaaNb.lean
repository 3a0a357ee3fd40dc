/- Contracts on the program's walk over measures: leastMeasure, layNext. Conditions: at most four worlds, at most 36 grains. -/
import Derived.Test.YteljcicdibbhdaaMe
import Derived.Test.YteljcicdibbhdaaNc
namespace Go.Proofs.Yteljcicdibbhdaa
open Go.RowKit
set_option linter.unusedVariables false

set_option maxHeartbeats 2000000 in
theorem leastMeasure_any (w : World) (n : Nat) (h1 : 1 ≤ n) (h4 : n ≤ 4) :
    Calls Try.prog 112 #[.int .i64 (n : Int)] w (NewInts (natL (firstL n 36)) w) := by
  obtain ⟨i0, hi, hz0, hz1, hz2⟩ := info_parts Try_intinfo
  obtain rfl | rfl | rfl | rfl : n = 1 ∨ n = 2 ∨ n = 3 ∨ n = 4 := by omega
  · have hmk : ∀ w : World, (Instr.makeSlice 41 (.int .i64 1) (.int .i64 1)).run Try.prog w = .ok (.slice (some ⟨w.heap.size, 0, none⟩) 1 1) (w.alloc (.cells #[.int .i64 0] 3)) := by
      intro w
      have h := run_make (P := Try.prog) w 41 3 i0 (.int .i64 0) Try.underlying41 hi hz0 .i64 .i64 1 1 (by omega) (Int.le_refl _) (by rw [hz2]; omega) (by omega)
      rw [hz1] at h
      have e : madeCells (Value.int .i64 0).cells (Int.toNat 1 * 1) = #[.int .i64 0] := by kernel_rfl
      rw [e] at h
      exact h
    go_enter Try.func112, Try.ntmps112
    go_wp2
    go_ret
    refine ⟨_, rfl, ?_, by go_grown⟩
    exact World.ownsRow_lit w #[.int .i64 36] 1 (Nat.le_refl _) (by unfold maxLen; omega) rfl
  · have hmk : ∀ w : World, (Instr.makeSlice 41 (.int .i64 2) (.int .i64 2)).run Try.prog w = .ok (.slice (some ⟨w.heap.size, 0, none⟩) 2 2) (w.alloc (.cells #[.int .i64 0, .int .i64 0] 3)) := by
      intro w
      have h := run_make (P := Try.prog) w 41 3 i0 (.int .i64 0) Try.underlying41 hi hz0 .i64 .i64 2 2 (by omega) (Int.le_refl _) (by rw [hz2]; omega) (by omega)
      rw [hz1] at h
      have e : madeCells (Value.int .i64 0).cells (Int.toNat 2 * 1) = #[.int .i64 0, .int .i64 0] := by kernel_rfl
      rw [e] at h
      exact h
    go_enter Try.func112, Try.ntmps112
    go_wp2
    go_ret
    refine ⟨_, rfl, ?_, by go_grown⟩
    exact World.ownsRow_lit w #[.int .i64 0, .int .i64 36] 2 (Nat.le_refl _) (by unfold maxLen; omega) rfl
  · have hmk : ∀ w : World, (Instr.makeSlice 41 (.int .i64 3) (.int .i64 3)).run Try.prog w = .ok (.slice (some ⟨w.heap.size, 0, none⟩) 3 3) (w.alloc (.cells #[.int .i64 0, .int .i64 0, .int .i64 0] 3)) := by
      intro w
      have h := run_make (P := Try.prog) w 41 3 i0 (.int .i64 0) Try.underlying41 hi hz0 .i64 .i64 3 3 (by omega) (Int.le_refl _) (by rw [hz2]; omega) (by omega)
      rw [hz1] at h
      have e : madeCells (Value.int .i64 0).cells (Int.toNat 3 * 1) = #[.int .i64 0, .int .i64 0, .int .i64 0] := by kernel_rfl
      rw [e] at h
      exact h
    go_enter Try.func112, Try.ntmps112
    go_wp2
    go_ret
    refine ⟨_, rfl, ?_, by go_grown⟩
    exact World.ownsRow_lit w #[.int .i64 0, .int .i64 0, .int .i64 36] 3 (Nat.le_refl _) (by unfold maxLen; omega) rfl
  · have hmk : ∀ w : World, (Instr.makeSlice 41 (.int .i64 4) (.int .i64 4)).run Try.prog w = .ok (.slice (some ⟨w.heap.size, 0, none⟩) 4 4) (w.alloc (.cells #[.int .i64 0, .int .i64 0, .int .i64 0, .int .i64 0] 3)) := by
      intro w
      have h := run_make (P := Try.prog) w 41 3 i0 (.int .i64 0) Try.underlying41 hi hz0 .i64 .i64 4 4 (by omega) (Int.le_refl _) (by rw [hz2]; omega) (by omega)
      rw [hz1] at h
      have e : madeCells (Value.int .i64 0).cells (Int.toNat 4 * 1) = #[.int .i64 0, .int .i64 0, .int .i64 0, .int .i64 0] := by kernel_rfl
      rw [e] at h
      exact h
    go_enter Try.func112, Try.ntmps112
    go_wp2
    go_ret
    refine ⟨_, rfl, ?_, by go_grown⟩
    exact World.ownsRow_lit w #[.int .i64 0, .int .i64 0, .int .i64 0, .int .i64 36] 4 (Nat.le_refl _) (by unfold maxLen; omega) rfl

set_option maxHeartbeats 2000000 in
theorem next_1_0 (w : World) (base : Nat) (v : Value) (a : Nat) (ha : a ≤ 36) (hv : IOwn w base v (natL [a])) :
    Calls Try.prog 113 #[v] w (StepPost base v [a] w) := by
  obtain ⟨g, cap, rfl, hc1, hc2⟩ := hv.form (by simp [natL])
  have hn : (natL [a]).length = 1 := rfl
  rw [hn] at hc1 ⊢
  rw [hn] at hv
  have hc3 : (1 : Int) ≤ (cap : Int) := by omega
  have k0 : w.cell? ⟨g, 0, none⟩ = some (.int .i64 ((a : Nat) : Int)) := hv.cellk rfl
  have f0 : w.frozen? ⟨g, 0, none⟩ = false := hv.frz rfl 0
  have HR := Lib.hid (step_no (l := [a]) (by simp [stepL]) hv)
  clear hv
  go_enter Try.func113, Try.ntmps113
  go_wp2_with fail
  go_rounds 6
  go_ret
  exact HR.out

set_option maxHeartbeats 2000000 in
theorem next_2_1 (w : World) (base : Nat) (v : Value) (a b : Nat) (ha : a ≤ 36) (hb : b ≤ 36) (hv : IOwn w base v (natL [a, b + 1])) :
    Calls Try.prog 113 #[v] w (StepPost base v [a, b + 1] w) := by
  obtain ⟨g, cap, rfl, hc1, hc2⟩ := hv.form (by simp [natL])
  have hn : (natL [a, b + 1]).length = 2 := rfl
  rw [hn] at hc1 ⊢
  rw [hn] at hv
  have hc3 : (2 : Int) ≤ (cap : Int) := by omega
  have k0 : w.cell? ⟨g, 0, none⟩ = some (.int .i64 ((a : Nat) : Int)) := hv.cellk rfl
  have f0 : w.frozen? ⟨g, 0, none⟩ = false := hv.frz rfl 0
  have k1 : w.cell? ⟨g, 1, none⟩ = some (.int .i64 ((b + 1 : Nat) : Int)) := hv.cellk rfl
  have f1 : w.frozen? ⟨g, 1, none⟩ = false := hv.frz rfl 1
  obtain ⟨o1, g1⟩ := hv.set_ rfl 1 0
  obtain ⟨o2, g2⟩ := o1.set_ rfl 0 ((a : Int) + 1)
  obtain ⟨o3, g3⟩ := o2.set_ rfl 1 (b : Int)
  have HR := Lib.hid (step_yes (l := [a, b + 1]) (l' := [a + 1, b]) (by simp [stepL, firstL]) g1 g2 g3 o3 (by simp [natL]) (by simp [World.setCell]))
  have hne : (0 : Int) < ((b + 1 : Nat) : Int) := by omega
  have hne2 : (0 : Int) < (b : Int) + 1 := by omega
  clear o1 o2 o3 g1 g2 g3 hv
  go_enter Try.func113, Try.ntmps113
  go_wp2_with fail
  go_rounds 6
  go_ret
  have h := HR.out
  simpa using h

set_option maxHeartbeats 2000000 in
theorem next_2_0 (w : World) (base : Nat) (v : Value) (a : Nat) (ha : a ≤ 36) (hv : IOwn w base v (natL [a, 0])) :
    Calls Try.prog 113 #[v] w (StepPost base v [a, 0] w) := by
  obtain ⟨g, cap, rfl, hc1, hc2⟩ := hv.form (by simp [natL])
  have hn : (natL [a, 0]).length = 2 := rfl
  rw [hn] at hc1 ⊢
  rw [hn] at hv
  have hc3 : (2 : Int) ≤ (cap : Int) := by omega
  have k0 : w.cell? ⟨g, 0, none⟩ = some (.int .i64 ((a : Nat) : Int)) := hv.cellk rfl
  have f0 : w.frozen? ⟨g, 0, none⟩ = false := hv.frz rfl 0
  have k1 : w.cell? ⟨g, 1, none⟩ = some (.int .i64 0) := hv.cellk rfl
  have f1 : w.frozen? ⟨g, 1, none⟩ = false := hv.frz rfl 1
  have HR := Lib.hid (step_no (l := [a, 0]) (by simp [stepL]) hv)
  clear hv
  go_enter Try.func113, Try.ntmps113
  go_wp2_with fail
  go_rounds 6
  go_ret
  exact HR.out

set_option maxHeartbeats 2000000 in
theorem next_3_2 (w : World) (base : Nat) (v : Value) (a b c : Nat) (ha : a ≤ 36) (hb : b ≤ 36) (hc : c ≤ 36) (hv : IOwn w base v (natL [a, b, c + 1])) :
    Calls Try.prog 113 #[v] w (StepPost base v [a, b, c + 1] w) := by
  obtain ⟨g, cap, rfl, hc1, hc2⟩ := hv.form (by simp [natL])
  have hn : (natL [a, b, c + 1]).length = 3 := rfl
  rw [hn] at hc1 ⊢
  rw [hn] at hv
  have hc3 : (3 : Int) ≤ (cap : Int) := by omega
  have k0 : w.cell? ⟨g, 0, none⟩ = some (.int .i64 ((a : Nat) : Int)) := hv.cellk rfl
  have f0 : w.frozen? ⟨g, 0, none⟩ = false := hv.frz rfl 0
  have k1 : w.cell? ⟨g, 1, none⟩ = some (.int .i64 ((b : Nat) : Int)) := hv.cellk rfl
  have f1 : w.frozen? ⟨g, 1, none⟩ = false := hv.frz rfl 1
  have k2 : w.cell? ⟨g, 2, none⟩ = some (.int .i64 ((c + 1 : Nat) : Int)) := hv.cellk rfl
  have f2 : w.frozen? ⟨g, 2, none⟩ = false := hv.frz rfl 2
  obtain ⟨o1, g1⟩ := hv.set_ rfl 2 0
  obtain ⟨o2, g2⟩ := o1.set_ rfl 1 ((b : Int) + 1)
  obtain ⟨o3, g3⟩ := o2.set_ rfl 2 (c : Int)
  have HR := Lib.hid (step_yes (l := [a, b, c + 1]) (l' := [a, b + 1, c]) (by simp [stepL, firstL]) g1 g2 g3 o3 (by simp [natL]) (by simp [World.setCell]))
  have hne : (0 : Int) < ((c + 1 : Nat) : Int) := by omega
  have hne2 : (0 : Int) < (c : Int) + 1 := by omega
  clear o1 o2 o3 g1 g2 g3 hv
  go_enter Try.func113, Try.ntmps113
  go_wp2_with fail
  go_rounds 6
  go_ret
  have h := HR.out
  simpa using h

set_option maxHeartbeats 2000000 in
theorem next_3_1 (w : World) (base : Nat) (v : Value) (a b : Nat) (ha : a ≤ 36) (hb : b ≤ 36) (hv : IOwn w base v (natL [a, b + 1, 0])) :
    Calls Try.prog 113 #[v] w (StepPost base v [a, b + 1, 0] w) := by
  obtain ⟨g, cap, rfl, hc1, hc2⟩ := hv.form (by simp [natL])
  have hn : (natL [a, b + 1, 0]).length = 3 := rfl
  rw [hn] at hc1 ⊢
  rw [hn] at hv
  have hc3 : (3 : Int) ≤ (cap : Int) := by omega
  have k0 : w.cell? ⟨g, 0, none⟩ = some (.int .i64 ((a : Nat) : Int)) := hv.cellk rfl
  have f0 : w.frozen? ⟨g, 0, none⟩ = false := hv.frz rfl 0
  have k1 : w.cell? ⟨g, 1, none⟩ = some (.int .i64 ((b + 1 : Nat) : Int)) := hv.cellk rfl
  have f1 : w.frozen? ⟨g, 1, none⟩ = false := hv.frz rfl 1
  have k2 : w.cell? ⟨g, 2, none⟩ = some (.int .i64 0) := hv.cellk rfl
  have f2 : w.frozen? ⟨g, 2, none⟩ = false := hv.frz rfl 2
  obtain ⟨o1, g1⟩ := hv.set_ rfl 1 0
  obtain ⟨o2, g2⟩ := o1.set_ rfl 0 ((a : Int) + 1)
  obtain ⟨o3, g3⟩ := o2.set_ rfl 2 (b : Int)
  have HR := Lib.hid (step_yes (l := [a, b + 1, 0]) (l' := [a + 1, 0, b]) (by simp [stepL, firstL]) g1 g2 g3 o3 (by simp [natL]) (by simp [World.setCell]))
  have hne : (0 : Int) < ((b + 1 : Nat) : Int) := by omega
  have hne2 : (0 : Int) < (b : Int) + 1 := by omega
  clear o1 o2 o3 g1 g2 g3 hv
  go_enter Try.func113, Try.ntmps113
  go_wp2_with fail
  go_rounds 6
  go_ret
  have h := HR.out
  simpa using h

set_option maxHeartbeats 2000000 in
theorem next_3_0 (w : World) (base : Nat) (v : Value) (a : Nat) (ha : a ≤ 36) (hv : IOwn w base v (natL [a, 0, 0])) :
    Calls Try.prog 113 #[v] w (StepPost base v [a, 0, 0] w) := by
  obtain ⟨g, cap, rfl, hc1, hc2⟩ := hv.form (by simp [natL])
  have hn : (natL [a, 0, 0]).length = 3 := rfl
  rw [hn] at hc1 ⊢
  rw [hn] at hv
  have hc3 : (3 : Int) ≤ (cap : Int) := by omega
  have k0 : w.cell? ⟨g, 0, none⟩ = some (.int .i64 ((a : Nat) : Int)) := hv.cellk rfl
  have f0 : w.frozen? ⟨g, 0, none⟩ = false := hv.frz rfl 0
  have k1 : w.cell? ⟨g, 1, none⟩ = some (.int .i64 0) := hv.cellk rfl
  have f1 : w.frozen? ⟨g, 1, none⟩ = false := hv.frz rfl 1
  have k2 : w.cell? ⟨g, 2, none⟩ = some (.int .i64 0) := hv.cellk rfl
  have f2 : w.frozen? ⟨g, 2, none⟩ = false := hv.frz rfl 2
  have HR := Lib.hid (step_no (l := [a, 0, 0]) (by simp [stepL]) hv)
  clear hv
  go_enter Try.func113, Try.ntmps113
  go_wp2_with fail
  go_rounds 6
  go_ret
  exact HR.out

set_option maxHeartbeats 2000000 in
theorem next_4_3 (w : World) (base : Nat) (v : Value) (a b c d : Nat) (ha : a ≤ 36) (hb : b ≤ 36) (hc : c ≤ 36) (hd : d ≤ 36) (hv : IOwn w base v (natL [a, b, c, d + 1])) :
    Calls Try.prog 113 #[v] w (StepPost base v [a, b, c, d + 1] w) := by
  obtain ⟨g, cap, rfl, hc1, hc2⟩ := hv.form (by simp [natL])
  have hn : (natL [a, b, c, d + 1]).length = 4 := rfl
  rw [hn] at hc1 ⊢
  rw [hn] at hv
  have hc3 : (4 : Int) ≤ (cap : Int) := by omega
  have k0 : w.cell? ⟨g, 0, none⟩ = some (.int .i64 ((a : Nat) : Int)) := hv.cellk rfl
  have f0 : w.frozen? ⟨g, 0, none⟩ = false := hv.frz rfl 0
  have k1 : w.cell? ⟨g, 1, none⟩ = some (.int .i64 ((b : Nat) : Int)) := hv.cellk rfl
  have f1 : w.frozen? ⟨g, 1, none⟩ = false := hv.frz rfl 1
  have k2 : w.cell? ⟨g, 2, none⟩ = some (.int .i64 ((c : Nat) : Int)) := hv.cellk rfl
  have f2 : w.frozen? ⟨g, 2, none⟩ = false := hv.frz rfl 2
  have k3 : w.cell? ⟨g, 3, none⟩ = some (.int .i64 ((d + 1 : Nat) : Int)) := hv.cellk rfl
  have f3 : w.frozen? ⟨g, 3, none⟩ = false := hv.frz rfl 3
  obtain ⟨o1, g1⟩ := hv.set_ rfl 3 0
  obtain ⟨o2, g2⟩ := o1.set_ rfl 2 ((c : Int) + 1)
  obtain ⟨o3, g3⟩ := o2.set_ rfl 3 (d : Int)
  have HR := Lib.hid (step_yes (l := [a, b, c, d + 1]) (l' := [a, b, c + 1, d]) (by simp [stepL, firstL]) g1 g2 g3 o3 (by simp [natL]) (by simp [World.setCell]))
  have hne : (0 : Int) < ((d + 1 : Nat) : Int) := by omega
  have hne2 : (0 : Int) < (d : Int) + 1 := by omega
  clear o1 o2 o3 g1 g2 g3 hv
  go_enter Try.func113, Try.ntmps113
  go_wp2_with fail
  go_rounds 6
  go_ret
  have h := HR.out
  simpa using h

set_option maxHeartbeats 2000000 in
theorem next_4_2 (w : World) (base : Nat) (v : Value) (a b c : Nat) (ha : a ≤ 36) (hb : b ≤ 36) (hc : c ≤ 36) (hv : IOwn w base v (natL [a, b, c + 1, 0])) :
    Calls Try.prog 113 #[v] w (StepPost base v [a, b, c + 1, 0] w) := by
  obtain ⟨g, cap, rfl, hc1, hc2⟩ := hv.form (by simp [natL])
  have hn : (natL [a, b, c + 1, 0]).length = 4 := rfl
  rw [hn] at hc1 ⊢
  rw [hn] at hv
  have hc3 : (4 : Int) ≤ (cap : Int) := by omega
  have k0 : w.cell? ⟨g, 0, none⟩ = some (.int .i64 ((a : Nat) : Int)) := hv.cellk rfl
  have f0 : w.frozen? ⟨g, 0, none⟩ = false := hv.frz rfl 0
  have k1 : w.cell? ⟨g, 1, none⟩ = some (.int .i64 ((b : Nat) : Int)) := hv.cellk rfl
  have f1 : w.frozen? ⟨g, 1, none⟩ = false := hv.frz rfl 1
  have k2 : w.cell? ⟨g, 2, none⟩ = some (.int .i64 ((c + 1 : Nat) : Int)) := hv.cellk rfl
  have f2 : w.frozen? ⟨g, 2, none⟩ = false := hv.frz rfl 2
  have k3 : w.cell? ⟨g, 3, none⟩ = some (.int .i64 0) := hv.cellk rfl
  have f3 : w.frozen? ⟨g, 3, none⟩ = false := hv.frz rfl 3
  obtain ⟨o1, g1⟩ := hv.set_ rfl 2 0
  obtain ⟨o2, g2⟩ := o1.set_ rfl 1 ((b : Int) + 1)
  obtain ⟨o3, g3⟩ := o2.set_ rfl 3 (c : Int)
  have HR := Lib.hid (step_yes (l := [a, b, c + 1, 0]) (l' := [a, b + 1, 0, c]) (by simp [stepL, firstL]) g1 g2 g3 o3 (by simp [natL]) (by simp [World.setCell]))
  have hne : (0 : Int) < ((c + 1 : Nat) : Int) := by omega
  have hne2 : (0 : Int) < (c : Int) + 1 := by omega
  clear o1 o2 o3 g1 g2 g3 hv
  go_enter Try.func113, Try.ntmps113
  go_wp2_with fail
  go_rounds 6
  go_ret
  have h := HR.out
  simpa using h

set_option maxHeartbeats 2000000 in
theorem next_4_1 (w : World) (base : Nat) (v : Value) (a b : Nat) (ha : a ≤ 36) (hb : b ≤ 36) (hv : IOwn w base v (natL [a, b + 1, 0, 0])) :
    Calls Try.prog 113 #[v] w (StepPost base v [a, b + 1, 0, 0] w) := by
  obtain ⟨g, cap, rfl, hc1, hc2⟩ := hv.form (by simp [natL])
  have hn : (natL [a, b + 1, 0, 0]).length = 4 := rfl
  rw [hn] at hc1 ⊢
  rw [hn] at hv
  have hc3 : (4 : Int) ≤ (cap : Int) := by omega
  have k0 : w.cell? ⟨g, 0, none⟩ = some (.int .i64 ((a : Nat) : Int)) := hv.cellk rfl
  have f0 : w.frozen? ⟨g, 0, none⟩ = false := hv.frz rfl 0
  have k1 : w.cell? ⟨g, 1, none⟩ = some (.int .i64 ((b + 1 : Nat) : Int)) := hv.cellk rfl
  have f1 : w.frozen? ⟨g, 1, none⟩ = false := hv.frz rfl 1
  have k2 : w.cell? ⟨g, 2, none⟩ = some (.int .i64 0) := hv.cellk rfl
  have f2 : w.frozen? ⟨g, 2, none⟩ = false := hv.frz rfl 2
  have k3 : w.cell? ⟨g, 3, none⟩ = some (.int .i64 0) := hv.cellk rfl
  have f3 : w.frozen? ⟨g, 3, none⟩ = false := hv.frz rfl 3
  obtain ⟨o1, g1⟩ := hv.set_ rfl 1 0
  obtain ⟨o2, g2⟩ := o1.set_ rfl 0 ((a : Int) + 1)
  obtain ⟨o3, g3⟩ := o2.set_ rfl 3 (b : Int)
  have HR := Lib.hid (step_yes (l := [a, b + 1, 0, 0]) (l' := [a + 1, 0, 0, b]) (by simp [stepL, firstL]) g1 g2 g3 o3 (by simp [natL]) (by simp [World.setCell]))
  have hne : (0 : Int) < ((b + 1 : Nat) : Int) := by omega
  have hne2 : (0 : Int) < (b : Int) + 1 := by omega
  clear o1 o2 o3 g1 g2 g3 hv
  go_enter Try.func113, Try.ntmps113
  go_wp2_with fail
  go_rounds 6
  go_ret
  have h := HR.out
  simpa using h

set_option maxHeartbeats 2000000 in
theorem next_4_0 (w : World) (base : Nat) (v : Value) (a : Nat) (ha : a ≤ 36) (hv : IOwn w base v (natL [a, 0, 0, 0])) :
    Calls Try.prog 113 #[v] w (StepPost base v [a, 0, 0, 0] w) := by
  obtain ⟨g, cap, rfl, hc1, hc2⟩ := hv.form (by simp [natL])
  have hn : (natL [a, 0, 0, 0]).length = 4 := rfl
  rw [hn] at hc1 ⊢
  rw [hn] at hv
  have hc3 : (4 : Int) ≤ (cap : Int) := by omega
  have k0 : w.cell? ⟨g, 0, none⟩ = some (.int .i64 ((a : Nat) : Int)) := hv.cellk rfl
  have f0 : w.frozen? ⟨g, 0, none⟩ = false := hv.frz rfl 0
  have k1 : w.cell? ⟨g, 1, none⟩ = some (.int .i64 0) := hv.cellk rfl
  have f1 : w.frozen? ⟨g, 1, none⟩ = false := hv.frz rfl 1
  have k2 : w.cell? ⟨g, 2, none⟩ = some (.int .i64 0) := hv.cellk rfl
  have f2 : w.frozen? ⟨g, 2, none⟩ = false := hv.frz rfl 2
  have k3 : w.cell? ⟨g, 3, none⟩ = some (.int .i64 0) := hv.cellk rfl
  have f3 : w.frozen? ⟨g, 3, none⟩ = false := hv.frz rfl 3
  have HR := Lib.hid (step_no (l := [a, 0, 0, 0]) (by simp [stepL]) hv)
  clear hv
  go_enter Try.func113, Try.ntmps113
  go_wp2_with fail
  go_rounds 6
  go_ret
  exact HR.out

theorem layNext_any (w : World) (base : Nat) (v : Value) (l : List Nat) (h1 : 1 ≤ l.length) (h4 : l.length ≤ 4) (hs : l.sum ≤ 36) (hv : IOwn w base v (natL l)) :
    Calls Try.prog 113 #[v] w (StepPost base v l w) := by
  match l, h1, h4, hs, hv with
  | [a], h1, h4, hs, hv =>
    simp only [List.sum_cons, List.sum_nil] at hs
    exact next_1_0 w base v a (by omega) hv
  | [a, b], h1, h4, hs, hv =>
    simp only [List.sum_cons, List.sum_nil] at hs
    cases b with
    | zero =>
      exact next_2_0 w base v a (by omega) hv
    | succ b => exact next_2_1 w base v a b (by omega) (by omega) hv
  | [a, b, c], h1, h4, hs, hv =>
    simp only [List.sum_cons, List.sum_nil] at hs
    cases c with
    | zero =>
      cases b with
      | zero =>
        exact next_3_0 w base v a (by omega) hv
      | succ b => exact next_3_1 w base v a b (by omega) (by omega) hv
    | succ c => exact next_3_2 w base v a b c (by omega) (by omega) (by omega) hv
  | [a, b, c, d], h1, h4, hs, hv =>
    simp only [List.sum_cons, List.sum_nil] at hs
    cases d with
    | zero =>
      cases c with
      | zero =>
        cases b with
        | zero =>
          exact next_4_0 w base v a (by omega) hv
        | succ b => exact next_4_1 w base v a b (by omega) (by omega) hv
      | succ c => exact next_4_2 w base v a b c (by omega) (by omega) (by omega) hv
    | succ d => exact next_4_3 w base v a b c d (by omega) (by omega) (by omega) (by omega) hv

end Go.Proofs.Yteljcicdibbhdaa
