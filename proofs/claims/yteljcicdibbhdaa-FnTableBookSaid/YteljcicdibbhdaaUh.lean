/- What is drawn of tables: l20Measure at 0 (a measure, surely). Conditions: a reader, few picks before. -/
import Derived.Test.YteljcicdibbhdaaDm
import Derived.Test.YteljcicdibbhdaaUb
namespace Go.Proofs.Yteljcicdibbhdaa
open Go.RowKit
set_option linter.unusedVariables false

theorem sum_set {xs : List Int} {k : Nat} {x : Int} (hx : xs[k]? = some x) (y : Int) : (xs.set k y).sum = xs.sum - x + y := by
  induction xs generalizing k with
  | nil => simp at hx
  | cons z xs ih =>
    cases k with
    | zero => simp at hx; subst hx; simp; omega
    | succ k =>
      simp at hx
      have := ih hx
      simp [this]; omega

/-- what is left of the grains is what the row lacks; nothing lies from world k on -/
def SumK (xs : List Int) (k : Nat) (L : Int) : Prop := xs.sum + L = 36 ∧ ∀ i, k ≤ i → ∀ x, xs[i]? = some x → x = 0

theorem SumK.set_ {xs : List Int} {k : Nat} {L : Int} (h : SumK xs k L) (hk : k < xs.length) (y : Int) : SumK (xs.set k y) (k + 1) (L - y) := by
  obtain ⟨x, hx⟩ : ∃ x, xs[k]? = some x := ⟨_, List.getElem?_eq_getElem hk⟩
  have h0 := h.2 k (Nat.le_refl _) x hx
  refine ⟨by rw [sum_set hx, h0]; have := h.1; omega, fun i hi x hx => h.2 i (by omega) x ?_⟩
  rwa [List.getElem?_set_ne (by omega)] at hx

theorem SumK.mea {xs : List Int} {n : Nat} {L : Int} (h : SumK xs n L) (hb : Bnd 36 xs) (hL : L = 0) (h1 : 1 ≤ xs.length) (h4 : xs.length ≤ 4) : meaB xs = true :=
  (meaB_iff xs).2 ⟨hb, h1, h4, by have := h.1; omega⟩

/-- a measure that was drawn surely -/
def MeaS (w : World) (R P n : Nat) (e : Ending) (w' : World) : Prop := ∃ v xs, e = .returned v ∧ GamRel w R P v xs w' ∧ xs.length = n ∧ meaB xs = true

set_option maxRecDepth 100000 in
set_option maxHeartbeats 1000000 in
theorem odd_zero (w : World) (R : Nat) : Calls Try.prog 99 #[.pointer (some ⟨R, 0, none⟩), .int .i64 0] w fun e w' => e = .returned (.bool false) ∧ w = w' := by
  go_enter Try.func99, Try.ntmps99
  go_wp2_with fail
  go_ret
  exact ⟨rfl, rfl⟩

set_option maxRecDepth 100000 in
set_option maxHeartbeats 8000000 in
theorem l20MeasureS_1 (w : World) (R P : Nat) (hP : P ≤ 100000) (h : Rd w R P) :
    Calls Try.prog 103 #[.pointer (some ⟨R, 0, none⟩), .int .i64 1, .int .i64 0] w (MeaS w R (P + 8) 1) := by
  obtain ⟨i0, hi, hz0, hz1, hz2⟩ := info_parts Try_intinfo
  have hmk : ∀ w : World, (Instr.makeSlice 41 (.int .i64 1) (.int .i64 1)).run Try.prog w = .ok (.slice (some ⟨w.heap.size, 0, none⟩) 1 1) (w.alloc (.cells #[.int .i64 0] 3)) := by
    intro w
    have h := run_make (P := Try.prog) w 41 3 i0 (.int .i64 0) Try.underlying41 hi hz0 .i64 .i64 1 1 (by omega) (Int.le_refl _) (by rw [hz2]; omega) (by omega)
    rw [hz1] at h
    have e : madeCells (Value.int .i64 0).cells (Int.toNat 1 * 1) = #[.int .i64 0] := by kernel_rfl
    rw [e] at h
    exact h
  have hR := h.lt
  have hown0 : IOwn (w.alloc (.cells #[.int .i64 0] 3)) w.heap.size (.slice (some ⟨w.heap.size, 0, none⟩) 1 1) [0] := World.ownsRow_lit w #[.int .i64 0] 1 (Nat.le_refl _) (by unfold maxLen; omega) rfl
  have G0 : GamRel w R P (.slice (some ⟨w.heap.size, 0, none⟩) 1 1) [0] (w.alloc (.cells #[.int .i64 0] 3)) :=
    ⟨h.keep (by simp) (fun b hb => Below.heap_alloc w _ b hb), hown0, World.grownBy_alloc _ _ _, hR⟩
  have G1 := Lib.hid (G0.alloc (.cells #[.int .i64 1, .int .i64 2, .int .i64 6] 3))
  have KB := Lib.hid (blk_alloc (w.alloc (.cells #[.int .i64 0] 3)) #[.int .i64 1, .int .i64 2, .int .i64 6] 3)
  rw [World.size_alloc] at KB
  have HNE : Hid (w.heap.size + 1 ≠ R) := Lib.hid (by omega)
  clear G0 h hown0 hi hz0 hz1 hz2
  go_enter Try.func103, Try.ntmps103
  go_wp2_with fail
  refine (pick_any _ R P _ (by omega) G1.out.1).mono ?_
  rintro e w4 ⟨v1, rfl, ⟨p1, p2, -⟩, k1⟩
  have p2 := p2 (by decide)
  have G4 := Lib.hid (G1.out.picked k1)
  have hs0 : w4.cell? ⟨w.heap.size + 1, 0, none⟩ = some (.int .i64 1) := (KB.out.picked k1 HNE.out).cell 0
  have hs1 : w4.cell? ⟨w.heap.size + 1, 1, none⟩ = some (.int .i64 2) := (KB.out.picked k1 HNE.out).cell 1
  have hs2 : w4.cell? ⟨w.heap.size + 1, 2, none⟩ = some (.int .i64 6) := (KB.out.picked k1 HNE.out).cell 2
  clear k1 G1 KB HNE
  obtain rfl | rfl | rfl : v1 = 0 ∨ v1 = 1 ∨ v1 = 2 := by omega
  · go_wp2_with fail
    clear hs0 hs1 hs2 p1 p2
    go_loopw [8, 10] (fun l c wr => ∃ (k Q : Nat) (L : Int) (xs : List Int), c = .int .i64 (k : Int) ∧ k ≤ 0 ∧ Q ≤ P + 1 + k ∧ l = .int .i64 L ∧ 0 ≤ L ∧ L ≤ 36 ∧ Hid (xs.length = 1) ∧ Hid (Bnd 36 xs) ∧ Hid (SumK xs k L) ∧ Hid (GamRel w R Q (.slice (some ⟨w.heap.size, 0, none⟩) 1 1) xs wr)) (fun _ c _ => 1 - (intOf c).toNat)
    case atStart => exact ⟨0, P + 1, 36, _, rfl, by omega, by omega, rfl, by omega, by omega, Lib.hid rfl, Lib.hid (by intro x hx; simp at hx; omega), Lib.hid ⟨by simp, fun i _ x hx => by have := List.mem_of_getElem? hx; simp at this; exact this⟩, G4⟩
    case round =>
      obtain ⟨k, Q, L, xs, rfl, hk, hQ, rfl, hL0, hL1, HL, HA, HS, HR⟩ := hrel
      clear G4
      by_cases hlt : k < 0
      · exact absurd hlt (Nat.not_lt_zero _)
      · obtain rfl : k = 0 := by omega
        obtain ⟨x0, hx0⟩ : ∃ x, xs[0]? = some x := ⟨_, List.getElem?_eq_getElem (by have := HL.out; omega)⟩
        have hc5 := HR.out.cell hx0
        have hf5 := HR.out.frozen 0
        have H6 := Lib.hid (HR.out.store (k := 0) (x := L) HL.out)
        have HL6 : Hid ((xs.set 0 L).length = 1) := Lib.hid (by rw [List.length_set]; exact HL.out)
        have HM6 : Hid (meaB (xs.set 0 L) = true) := Lib.hid ((HS.out.set_ (by have := HL.out; omega) L).mea (HA.out.set_ 0 (x := L) ⟨hL0, hL1⟩) (by omega) (by rw [HL6.out]; omega) (by rw [HL6.out]; omega))
        clear hx0 HL HA HR HS
        generalize xs.set 0 L = ys at H6 HL6 HM6
        go_wp2_with fail
        generalize wr.setCell ⟨w.heap.size, 0, none⟩ (.int .i64 L) = w6 at H6 ⊢
        clear hc5 hf5
        refine (odd_zero _ R).mono ?_
        rintro e w7 ⟨rfl, rfl⟩
        go_wp2_with fail
        go_ret
        exact ⟨_, _, rfl, H6.out.mono (by omega), HL6.out, HM6.out⟩
  · go_wp2_with fail
    clear hs0 hs1 hs2 p1 p2
    go_loopw [8, 10] (fun l c wr => ∃ (k Q : Nat) (L : Int) (xs : List Int), c = .int .i64 (k : Int) ∧ k ≤ 0 ∧ Q ≤ P + 1 + k ∧ l = .int .i64 L ∧ 0 ≤ L ∧ L ≤ 36 ∧ Hid (xs.length = 1) ∧ Hid (Bnd 36 xs) ∧ Hid (SumK xs k L) ∧ Hid (GamRel w R Q (.slice (some ⟨w.heap.size, 0, none⟩) 1 1) xs wr)) (fun _ c _ => 1 - (intOf c).toNat)
    case atStart => exact ⟨0, P + 1, 36, _, rfl, by omega, by omega, rfl, by omega, by omega, Lib.hid rfl, Lib.hid (by intro x hx; simp at hx; omega), Lib.hid ⟨by simp, fun i _ x hx => by have := List.mem_of_getElem? hx; simp at this; exact this⟩, G4⟩
    case round =>
      obtain ⟨k, Q, L, xs, rfl, hk, hQ, rfl, hL0, hL1, HL, HA, HS, HR⟩ := hrel
      clear G4
      by_cases hlt : k < 0
      · exact absurd hlt (Nat.not_lt_zero _)
      · obtain rfl : k = 0 := by omega
        obtain ⟨x0, hx0⟩ : ∃ x, xs[0]? = some x := ⟨_, List.getElem?_eq_getElem (by have := HL.out; omega)⟩
        have hc5 := HR.out.cell hx0
        have hf5 := HR.out.frozen 0
        have H6 := Lib.hid (HR.out.store (k := 0) (x := L) HL.out)
        have HL6 : Hid ((xs.set 0 L).length = 1) := Lib.hid (by rw [List.length_set]; exact HL.out)
        have HM6 : Hid (meaB (xs.set 0 L) = true) := Lib.hid ((HS.out.set_ (by have := HL.out; omega) L).mea (HA.out.set_ 0 (x := L) ⟨hL0, hL1⟩) (by omega) (by rw [HL6.out]; omega) (by rw [HL6.out]; omega))
        clear hx0 HL HA HR HS
        generalize xs.set 0 L = ys at H6 HL6 HM6
        go_wp2_with fail
        generalize wr.setCell ⟨w.heap.size, 0, none⟩ (.int .i64 L) = w6 at H6 ⊢
        clear hc5 hf5
        refine (odd_zero _ R).mono ?_
        rintro e w7 ⟨rfl, rfl⟩
        go_wp2_with fail
        go_ret
        exact ⟨_, _, rfl, H6.out.mono (by omega), HL6.out, HM6.out⟩
  · go_wp2_with fail
    clear hs0 hs1 hs2 p1 p2
    go_loopw [8, 10] (fun l c wr => ∃ (k Q : Nat) (L : Int) (xs : List Int), c = .int .i64 (k : Int) ∧ k ≤ 0 ∧ Q ≤ P + 1 + k ∧ l = .int .i64 L ∧ 0 ≤ L ∧ L ≤ 36 ∧ Hid (xs.length = 1) ∧ Hid (Bnd 36 xs) ∧ Hid (SumK xs k L) ∧ Hid (GamRel w R Q (.slice (some ⟨w.heap.size, 0, none⟩) 1 1) xs wr)) (fun _ c _ => 1 - (intOf c).toNat)
    case atStart => exact ⟨0, P + 1, 36, _, rfl, by omega, by omega, rfl, by omega, by omega, Lib.hid rfl, Lib.hid (by intro x hx; simp at hx; omega), Lib.hid ⟨by simp, fun i _ x hx => by have := List.mem_of_getElem? hx; simp at this; exact this⟩, G4⟩
    case round =>
      obtain ⟨k, Q, L, xs, rfl, hk, hQ, rfl, hL0, hL1, HL, HA, HS, HR⟩ := hrel
      clear G4
      by_cases hlt : k < 0
      · exact absurd hlt (Nat.not_lt_zero _)
      · obtain rfl : k = 0 := by omega
        obtain ⟨x0, hx0⟩ : ∃ x, xs[0]? = some x := ⟨_, List.getElem?_eq_getElem (by have := HL.out; omega)⟩
        have hc5 := HR.out.cell hx0
        have hf5 := HR.out.frozen 0
        have H6 := Lib.hid (HR.out.store (k := 0) (x := L) HL.out)
        have HL6 : Hid ((xs.set 0 L).length = 1) := Lib.hid (by rw [List.length_set]; exact HL.out)
        have HM6 : Hid (meaB (xs.set 0 L) = true) := Lib.hid ((HS.out.set_ (by have := HL.out; omega) L).mea (HA.out.set_ 0 (x := L) ⟨hL0, hL1⟩) (by omega) (by rw [HL6.out]; omega) (by rw [HL6.out]; omega))
        clear hx0 HL HA HR HS
        generalize xs.set 0 L = ys at H6 HL6 HM6
        go_wp2_with fail
        generalize wr.setCell ⟨w.heap.size, 0, none⟩ (.int .i64 L) = w6 at H6 ⊢
        clear hc5 hf5
        refine (odd_zero _ R).mono ?_
        rintro e w7 ⟨rfl, rfl⟩
        go_wp2_with fail
        go_ret
        exact ⟨_, _, rfl, H6.out.mono (by omega), HL6.out, HM6.out⟩

set_option maxRecDepth 100000 in
set_option maxHeartbeats 8000000 in
theorem l20MeasureS_2 (w : World) (R P : Nat) (hP : P ≤ 100000) (h : Rd w R P) :
    Calls Try.prog 103 #[.pointer (some ⟨R, 0, none⟩), .int .i64 2, .int .i64 0] w (MeaS w R (P + 8) 2) := by
  obtain ⟨i0, hi, hz0, hz1, hz2⟩ := info_parts Try_intinfo
  have hmk : ∀ w : World, (Instr.makeSlice 41 (.int .i64 2) (.int .i64 2)).run Try.prog w = .ok (.slice (some ⟨w.heap.size, 0, none⟩) 2 2) (w.alloc (.cells #[.int .i64 0, .int .i64 0] 3)) := by
    intro w
    have h := run_make (P := Try.prog) w 41 3 i0 (.int .i64 0) Try.underlying41 hi hz0 .i64 .i64 2 2 (by omega) (Int.le_refl _) (by rw [hz2]; omega) (by omega)
    rw [hz1] at h
    have e : madeCells (Value.int .i64 0).cells (Int.toNat 2 * 1) = #[.int .i64 0, .int .i64 0] := by kernel_rfl
    rw [e] at h
    exact h
  have hR := h.lt
  have hown0 : IOwn (w.alloc (.cells #[.int .i64 0, .int .i64 0] 3)) w.heap.size (.slice (some ⟨w.heap.size, 0, none⟩) 2 2) [0, 0] := World.ownsRow_lit w #[.int .i64 0, .int .i64 0] 2 (Nat.le_refl _) (by unfold maxLen; omega) rfl
  have G0 : GamRel w R P (.slice (some ⟨w.heap.size, 0, none⟩) 2 2) [0, 0] (w.alloc (.cells #[.int .i64 0, .int .i64 0] 3)) :=
    ⟨h.keep (by simp) (fun b hb => Below.heap_alloc w _ b hb), hown0, World.grownBy_alloc _ _ _, hR⟩
  have G1 := Lib.hid (G0.alloc (.cells #[.int .i64 1, .int .i64 2, .int .i64 6] 3))
  have KB := Lib.hid (blk_alloc (w.alloc (.cells #[.int .i64 0, .int .i64 0] 3)) #[.int .i64 1, .int .i64 2, .int .i64 6] 3)
  rw [World.size_alloc] at KB
  have HNE : Hid (w.heap.size + 1 ≠ R) := Lib.hid (by omega)
  clear G0 h hown0 hi hz0 hz1 hz2
  go_enter Try.func103, Try.ntmps103
  go_wp2_with fail
  refine (pick_any _ R P _ (by omega) G1.out.1).mono ?_
  rintro e w4 ⟨v1, rfl, ⟨p1, p2, -⟩, k1⟩
  have p2 := p2 (by decide)
  have G4 := Lib.hid (G1.out.picked k1)
  have hs0 : w4.cell? ⟨w.heap.size + 1, 0, none⟩ = some (.int .i64 1) := (KB.out.picked k1 HNE.out).cell 0
  have hs1 : w4.cell? ⟨w.heap.size + 1, 1, none⟩ = some (.int .i64 2) := (KB.out.picked k1 HNE.out).cell 1
  have hs2 : w4.cell? ⟨w.heap.size + 1, 2, none⟩ = some (.int .i64 6) := (KB.out.picked k1 HNE.out).cell 2
  clear k1 G1 KB HNE
  obtain rfl | rfl | rfl : v1 = 0 ∨ v1 = 1 ∨ v1 = 2 := by omega
  · go_wp2_with fail
    clear hs0 hs1 hs2 p1 p2
    go_loopw [8, 10] (fun l c wr => ∃ (k Q : Nat) (L : Int) (xs : List Int), c = .int .i64 (k : Int) ∧ k ≤ 1 ∧ Q ≤ P + 1 + k ∧ l = .int .i64 L ∧ 0 ≤ L ∧ L ≤ 36 ∧ Hid (xs.length = 2) ∧ Hid (Bnd 36 xs) ∧ Hid (SumK xs k L) ∧ Hid (GamRel w R Q (.slice (some ⟨w.heap.size, 0, none⟩) 2 2) xs wr)) (fun _ c _ => 2 - (intOf c).toNat)
    case atStart => exact ⟨0, P + 1, 36, _, rfl, by omega, by omega, rfl, by omega, by omega, Lib.hid rfl, Lib.hid (by intro x hx; simp at hx; omega), Lib.hid ⟨by simp, fun i _ x hx => by have := List.mem_of_getElem? hx; simp at this; exact this⟩, G4⟩
    case round =>
      obtain ⟨k, Q, L, xs, rfl, hk, hQ, rfl, hL0, hL1, HL, HA, HS, HR⟩ := hrel
      clear G4
      by_cases hlt : k < 1
      · have hlt' : (k : Int) < 1 := by omega
        go_wp2_with fail
        refine (pick_any _ R Q _ (by omega) HR.out.1).mono ?_
        rintro e w5 ⟨v2, rfl, ⟨p3, p4, -⟩, k1⟩
        have p4 := p4 (by omega)
        obtain ⟨x0, hx0⟩ : ∃ x, xs[k]? = some x := ⟨_, List.getElem?_eq_getElem (by have := HL.out; omega)⟩
        have H5 := Lib.hid (HR.out.picked k1)
        have hc5 := H5.out.cell hx0
        have hf5 := H5.out.frozen k
        have H6 := Lib.hid (H5.out.store (k := k) (x := v2) HL.out)
        have HA6 := Lib.hid (HA.out.set_ k (x := v2) (by omega))
        have HS6 := Lib.hid (HS.out.set_ (by have := HL.out; omega) (v2))
        clear k1 HR hx0
        go_wp2_with fail
        go_roundw
        case rel => exact ⟨k + 1, Q + 1, _, xs.set k (v2), by go_num, by omega, by omega, rfl, by omega, by omega, Lib.hid (by rw [List.length_set]; exact HL.out), HA6, HS6, by simpa using H6⟩
        case measure => simp [intOf]; omega
      · obtain rfl : k = 1 := by omega
        obtain ⟨x0, hx0⟩ : ∃ x, xs[1]? = some x := ⟨_, List.getElem?_eq_getElem (by have := HL.out; omega)⟩
        have hc5 := HR.out.cell hx0
        have hf5 := HR.out.frozen 1
        have H6 := Lib.hid (HR.out.store (k := 1) (x := L) HL.out)
        have HL6 : Hid ((xs.set 1 L).length = 2) := Lib.hid (by rw [List.length_set]; exact HL.out)
        have HM6 : Hid (meaB (xs.set 1 L) = true) := Lib.hid ((HS.out.set_ (by have := HL.out; omega) L).mea (HA.out.set_ 1 (x := L) ⟨hL0, hL1⟩) (by omega) (by rw [HL6.out]; omega) (by rw [HL6.out]; omega))
        clear hx0 HL HA HR HS
        generalize xs.set 1 L = ys at H6 HL6 HM6
        go_wp2_with fail
        generalize wr.setCell ⟨w.heap.size, 1, none⟩ (.int .i64 L) = w6 at H6 ⊢
        clear hc5 hf5
        refine (odd_zero _ R).mono ?_
        rintro e w7 ⟨rfl, rfl⟩
        go_wp2_with fail
        go_ret
        exact ⟨_, _, rfl, H6.out.mono (by omega), HL6.out, HM6.out⟩
  · go_wp2_with fail
    clear hs0 hs1 hs2 p1 p2
    go_loopw [8, 10] (fun l c wr => ∃ (k Q : Nat) (L : Int) (xs : List Int), c = .int .i64 (k : Int) ∧ k ≤ 1 ∧ Q ≤ P + 1 + k ∧ l = .int .i64 L ∧ 0 ≤ L ∧ L ≤ 36 ∧ Hid (xs.length = 2) ∧ Hid (Bnd 36 xs) ∧ Hid (SumK xs k L) ∧ Hid (GamRel w R Q (.slice (some ⟨w.heap.size, 0, none⟩) 2 2) xs wr)) (fun _ c _ => 2 - (intOf c).toNat)
    case atStart => exact ⟨0, P + 1, 36, _, rfl, by omega, by omega, rfl, by omega, by omega, Lib.hid rfl, Lib.hid (by intro x hx; simp at hx; omega), Lib.hid ⟨by simp, fun i _ x hx => by have := List.mem_of_getElem? hx; simp at this; exact this⟩, G4⟩
    case round =>
      obtain ⟨k, Q, L, xs, rfl, hk, hQ, rfl, hL0, hL1, HL, HA, HS, HR⟩ := hrel
      clear G4
      by_cases hlt : k < 1
      · have hlt' : (k : Int) < 1 := by omega
        go_wp2_with fail
        refine (pick_any _ R Q _ (by omega) HR.out.1).mono ?_
        rintro e w5 ⟨v2, rfl, ⟨p3, p4, -⟩, k1⟩
        have p4 := p4 (by omega)
        obtain ⟨x0, hx0⟩ : ∃ x, xs[k]? = some x := ⟨_, List.getElem?_eq_getElem (by have := HL.out; omega)⟩
        have H5 := Lib.hid (HR.out.picked k1)
        have hc5 := H5.out.cell hx0
        have hf5 := H5.out.frozen k
        have H6 := Lib.hid (H5.out.store (k := k) (x := v2 * 2) HL.out)
        have HA6 := Lib.hid (HA.out.set_ k (x := v2 * 2) (by omega))
        have HS6 := Lib.hid (HS.out.set_ (by have := HL.out; omega) (v2 * 2))
        clear k1 HR hx0
        go_wp2_with fail
        go_roundw
        case rel => exact ⟨k + 1, Q + 1, _, xs.set k (v2 * 2), by go_num, by omega, by omega, rfl, by omega, by omega, Lib.hid (by rw [List.length_set]; exact HL.out), HA6, HS6, by simpa using H6⟩
        case measure => simp [intOf]; omega
      · obtain rfl : k = 1 := by omega
        obtain ⟨x0, hx0⟩ : ∃ x, xs[1]? = some x := ⟨_, List.getElem?_eq_getElem (by have := HL.out; omega)⟩
        have hc5 := HR.out.cell hx0
        have hf5 := HR.out.frozen 1
        have H6 := Lib.hid (HR.out.store (k := 1) (x := L) HL.out)
        have HL6 : Hid ((xs.set 1 L).length = 2) := Lib.hid (by rw [List.length_set]; exact HL.out)
        have HM6 : Hid (meaB (xs.set 1 L) = true) := Lib.hid ((HS.out.set_ (by have := HL.out; omega) L).mea (HA.out.set_ 1 (x := L) ⟨hL0, hL1⟩) (by omega) (by rw [HL6.out]; omega) (by rw [HL6.out]; omega))
        clear hx0 HL HA HR HS
        generalize xs.set 1 L = ys at H6 HL6 HM6
        go_wp2_with fail
        generalize wr.setCell ⟨w.heap.size, 1, none⟩ (.int .i64 L) = w6 at H6 ⊢
        clear hc5 hf5
        refine (odd_zero _ R).mono ?_
        rintro e w7 ⟨rfl, rfl⟩
        go_wp2_with fail
        go_ret
        exact ⟨_, _, rfl, H6.out.mono (by omega), HL6.out, HM6.out⟩
  · go_wp2_with fail
    clear hs0 hs1 hs2 p1 p2
    go_loopw [8, 10] (fun l c wr => ∃ (k Q : Nat) (L : Int) (xs : List Int), c = .int .i64 (k : Int) ∧ k ≤ 1 ∧ Q ≤ P + 1 + k ∧ l = .int .i64 L ∧ 0 ≤ L ∧ L ≤ 36 ∧ Hid (xs.length = 2) ∧ Hid (Bnd 36 xs) ∧ Hid (SumK xs k L) ∧ Hid (GamRel w R Q (.slice (some ⟨w.heap.size, 0, none⟩) 2 2) xs wr)) (fun _ c _ => 2 - (intOf c).toNat)
    case atStart => exact ⟨0, P + 1, 36, _, rfl, by omega, by omega, rfl, by omega, by omega, Lib.hid rfl, Lib.hid (by intro x hx; simp at hx; omega), Lib.hid ⟨by simp, fun i _ x hx => by have := List.mem_of_getElem? hx; simp at this; exact this⟩, G4⟩
    case round =>
      obtain ⟨k, Q, L, xs, rfl, hk, hQ, rfl, hL0, hL1, HL, HA, HS, HR⟩ := hrel
      clear G4
      by_cases hlt : k < 1
      · have hlt' : (k : Int) < 1 := by omega
        go_wp2_with fail
        refine (pick_any _ R Q _ (by omega) HR.out.1).mono ?_
        rintro e w5 ⟨v2, rfl, ⟨p3, p4, -⟩, k1⟩
        have p4 := p4 (by omega)
        obtain ⟨x0, hx0⟩ : ∃ x, xs[k]? = some x := ⟨_, List.getElem?_eq_getElem (by have := HL.out; omega)⟩
        have H5 := Lib.hid (HR.out.picked k1)
        have hc5 := H5.out.cell hx0
        have hf5 := H5.out.frozen k
        have H6 := Lib.hid (H5.out.store (k := k) (x := v2 * 6) HL.out)
        have HA6 := Lib.hid (HA.out.set_ k (x := v2 * 6) (by omega))
        have HS6 := Lib.hid (HS.out.set_ (by have := HL.out; omega) (v2 * 6))
        clear k1 HR hx0
        go_wp2_with fail
        go_roundw
        case rel => exact ⟨k + 1, Q + 1, _, xs.set k (v2 * 6), by go_num, by omega, by omega, rfl, by omega, by omega, Lib.hid (by rw [List.length_set]; exact HL.out), HA6, HS6, by simpa using H6⟩
        case measure => simp [intOf]; omega
      · obtain rfl : k = 1 := by omega
        obtain ⟨x0, hx0⟩ : ∃ x, xs[1]? = some x := ⟨_, List.getElem?_eq_getElem (by have := HL.out; omega)⟩
        have hc5 := HR.out.cell hx0
        have hf5 := HR.out.frozen 1
        have H6 := Lib.hid (HR.out.store (k := 1) (x := L) HL.out)
        have HL6 : Hid ((xs.set 1 L).length = 2) := Lib.hid (by rw [List.length_set]; exact HL.out)
        have HM6 : Hid (meaB (xs.set 1 L) = true) := Lib.hid ((HS.out.set_ (by have := HL.out; omega) L).mea (HA.out.set_ 1 (x := L) ⟨hL0, hL1⟩) (by omega) (by rw [HL6.out]; omega) (by rw [HL6.out]; omega))
        clear hx0 HL HA HR HS
        generalize xs.set 1 L = ys at H6 HL6 HM6
        go_wp2_with fail
        generalize wr.setCell ⟨w.heap.size, 1, none⟩ (.int .i64 L) = w6 at H6 ⊢
        clear hc5 hf5
        refine (odd_zero _ R).mono ?_
        rintro e w7 ⟨rfl, rfl⟩
        go_wp2_with fail
        go_ret
        exact ⟨_, _, rfl, H6.out.mono (by omega), HL6.out, HM6.out⟩

set_option maxRecDepth 100000 in
set_option maxHeartbeats 8000000 in
theorem l20MeasureS_3 (w : World) (R P : Nat) (hP : P ≤ 100000) (h : Rd w R P) :
    Calls Try.prog 103 #[.pointer (some ⟨R, 0, none⟩), .int .i64 3, .int .i64 0] w (MeaS w R (P + 8) 3) := by
  obtain ⟨i0, hi, hz0, hz1, hz2⟩ := info_parts Try_intinfo
  have hmk : ∀ w : World, (Instr.makeSlice 41 (.int .i64 3) (.int .i64 3)).run Try.prog w = .ok (.slice (some ⟨w.heap.size, 0, none⟩) 3 3) (w.alloc (.cells #[.int .i64 0, .int .i64 0, .int .i64 0] 3)) := by
    intro w
    have h := run_make (P := Try.prog) w 41 3 i0 (.int .i64 0) Try.underlying41 hi hz0 .i64 .i64 3 3 (by omega) (Int.le_refl _) (by rw [hz2]; omega) (by omega)
    rw [hz1] at h
    have e : madeCells (Value.int .i64 0).cells (Int.toNat 3 * 1) = #[.int .i64 0, .int .i64 0, .int .i64 0] := by kernel_rfl
    rw [e] at h
    exact h
  have hR := h.lt
  have hown0 : IOwn (w.alloc (.cells #[.int .i64 0, .int .i64 0, .int .i64 0] 3)) w.heap.size (.slice (some ⟨w.heap.size, 0, none⟩) 3 3) [0, 0, 0] := World.ownsRow_lit w #[.int .i64 0, .int .i64 0, .int .i64 0] 3 (Nat.le_refl _) (by unfold maxLen; omega) rfl
  have G0 : GamRel w R P (.slice (some ⟨w.heap.size, 0, none⟩) 3 3) [0, 0, 0] (w.alloc (.cells #[.int .i64 0, .int .i64 0, .int .i64 0] 3)) :=
    ⟨h.keep (by simp) (fun b hb => Below.heap_alloc w _ b hb), hown0, World.grownBy_alloc _ _ _, hR⟩
  have G1 := Lib.hid (G0.alloc (.cells #[.int .i64 1, .int .i64 2, .int .i64 6] 3))
  have KB := Lib.hid (blk_alloc (w.alloc (.cells #[.int .i64 0, .int .i64 0, .int .i64 0] 3)) #[.int .i64 1, .int .i64 2, .int .i64 6] 3)
  rw [World.size_alloc] at KB
  have HNE : Hid (w.heap.size + 1 ≠ R) := Lib.hid (by omega)
  clear G0 h hown0 hi hz0 hz1 hz2
  go_enter Try.func103, Try.ntmps103
  go_wp2_with fail
  refine (pick_any _ R P _ (by omega) G1.out.1).mono ?_
  rintro e w4 ⟨v1, rfl, ⟨p1, p2, -⟩, k1⟩
  have p2 := p2 (by decide)
  have G4 := Lib.hid (G1.out.picked k1)
  have hs0 : w4.cell? ⟨w.heap.size + 1, 0, none⟩ = some (.int .i64 1) := (KB.out.picked k1 HNE.out).cell 0
  have hs1 : w4.cell? ⟨w.heap.size + 1, 1, none⟩ = some (.int .i64 2) := (KB.out.picked k1 HNE.out).cell 1
  have hs2 : w4.cell? ⟨w.heap.size + 1, 2, none⟩ = some (.int .i64 6) := (KB.out.picked k1 HNE.out).cell 2
  clear k1 G1 KB HNE
  obtain rfl | rfl | rfl : v1 = 0 ∨ v1 = 1 ∨ v1 = 2 := by omega
  · go_wp2_with fail
    clear hs0 hs1 hs2 p1 p2
    go_loopw [8, 10] (fun l c wr => ∃ (k Q : Nat) (L : Int) (xs : List Int), c = .int .i64 (k : Int) ∧ k ≤ 2 ∧ Q ≤ P + 1 + k ∧ l = .int .i64 L ∧ 0 ≤ L ∧ L ≤ 36 ∧ Hid (xs.length = 3) ∧ Hid (Bnd 36 xs) ∧ Hid (SumK xs k L) ∧ Hid (GamRel w R Q (.slice (some ⟨w.heap.size, 0, none⟩) 3 3) xs wr)) (fun _ c _ => 3 - (intOf c).toNat)
    case atStart => exact ⟨0, P + 1, 36, _, rfl, by omega, by omega, rfl, by omega, by omega, Lib.hid rfl, Lib.hid (by intro x hx; simp at hx; omega), Lib.hid ⟨by simp, fun i _ x hx => by have := List.mem_of_getElem? hx; simp at this; exact this⟩, G4⟩
    case round =>
      obtain ⟨k, Q, L, xs, rfl, hk, hQ, rfl, hL0, hL1, HL, HA, HS, HR⟩ := hrel
      clear G4
      by_cases hlt : k < 2
      · have hlt' : (k : Int) < 2 := by omega
        go_wp2_with fail
        refine (pick_any _ R Q _ (by omega) HR.out.1).mono ?_
        rintro e w5 ⟨v2, rfl, ⟨p3, p4, -⟩, k1⟩
        have p4 := p4 (by omega)
        obtain ⟨x0, hx0⟩ : ∃ x, xs[k]? = some x := ⟨_, List.getElem?_eq_getElem (by have := HL.out; omega)⟩
        have H5 := Lib.hid (HR.out.picked k1)
        have hc5 := H5.out.cell hx0
        have hf5 := H5.out.frozen k
        have H6 := Lib.hid (H5.out.store (k := k) (x := v2) HL.out)
        have HA6 := Lib.hid (HA.out.set_ k (x := v2) (by omega))
        have HS6 := Lib.hid (HS.out.set_ (by have := HL.out; omega) (v2))
        clear k1 HR hx0
        go_wp2_with fail
        go_roundw
        case rel => exact ⟨k + 1, Q + 1, _, xs.set k (v2), by go_num, by omega, by omega, rfl, by omega, by omega, Lib.hid (by rw [List.length_set]; exact HL.out), HA6, HS6, by simpa using H6⟩
        case measure => simp [intOf]; omega
      · obtain rfl : k = 2 := by omega
        obtain ⟨x0, hx0⟩ : ∃ x, xs[2]? = some x := ⟨_, List.getElem?_eq_getElem (by have := HL.out; omega)⟩
        have hc5 := HR.out.cell hx0
        have hf5 := HR.out.frozen 2
        have H6 := Lib.hid (HR.out.store (k := 2) (x := L) HL.out)
        have HL6 : Hid ((xs.set 2 L).length = 3) := Lib.hid (by rw [List.length_set]; exact HL.out)
        have HM6 : Hid (meaB (xs.set 2 L) = true) := Lib.hid ((HS.out.set_ (by have := HL.out; omega) L).mea (HA.out.set_ 2 (x := L) ⟨hL0, hL1⟩) (by omega) (by rw [HL6.out]; omega) (by rw [HL6.out]; omega))
        clear hx0 HL HA HR HS
        generalize xs.set 2 L = ys at H6 HL6 HM6
        go_wp2_with fail
        generalize wr.setCell ⟨w.heap.size, 2, none⟩ (.int .i64 L) = w6 at H6 ⊢
        clear hc5 hf5
        refine (odd_zero _ R).mono ?_
        rintro e w7 ⟨rfl, rfl⟩
        go_wp2_with fail
        go_ret
        exact ⟨_, _, rfl, H6.out.mono (by omega), HL6.out, HM6.out⟩
  · go_wp2_with fail
    clear hs0 hs1 hs2 p1 p2
    go_loopw [8, 10] (fun l c wr => ∃ (k Q : Nat) (L : Int) (xs : List Int), c = .int .i64 (k : Int) ∧ k ≤ 2 ∧ Q ≤ P + 1 + k ∧ l = .int .i64 L ∧ 0 ≤ L ∧ L ≤ 36 ∧ Hid (xs.length = 3) ∧ Hid (Bnd 36 xs) ∧ Hid (SumK xs k L) ∧ Hid (GamRel w R Q (.slice (some ⟨w.heap.size, 0, none⟩) 3 3) xs wr)) (fun _ c _ => 3 - (intOf c).toNat)
    case atStart => exact ⟨0, P + 1, 36, _, rfl, by omega, by omega, rfl, by omega, by omega, Lib.hid rfl, Lib.hid (by intro x hx; simp at hx; omega), Lib.hid ⟨by simp, fun i _ x hx => by have := List.mem_of_getElem? hx; simp at this; exact this⟩, G4⟩
    case round =>
      obtain ⟨k, Q, L, xs, rfl, hk, hQ, rfl, hL0, hL1, HL, HA, HS, HR⟩ := hrel
      clear G4
      by_cases hlt : k < 2
      · have hlt' : (k : Int) < 2 := by omega
        go_wp2_with fail
        refine (pick_any _ R Q _ (by omega) HR.out.1).mono ?_
        rintro e w5 ⟨v2, rfl, ⟨p3, p4, -⟩, k1⟩
        have p4 := p4 (by omega)
        obtain ⟨x0, hx0⟩ : ∃ x, xs[k]? = some x := ⟨_, List.getElem?_eq_getElem (by have := HL.out; omega)⟩
        have H5 := Lib.hid (HR.out.picked k1)
        have hc5 := H5.out.cell hx0
        have hf5 := H5.out.frozen k
        have H6 := Lib.hid (H5.out.store (k := k) (x := v2 * 2) HL.out)
        have HA6 := Lib.hid (HA.out.set_ k (x := v2 * 2) (by omega))
        have HS6 := Lib.hid (HS.out.set_ (by have := HL.out; omega) (v2 * 2))
        clear k1 HR hx0
        go_wp2_with fail
        go_roundw
        case rel => exact ⟨k + 1, Q + 1, _, xs.set k (v2 * 2), by go_num, by omega, by omega, rfl, by omega, by omega, Lib.hid (by rw [List.length_set]; exact HL.out), HA6, HS6, by simpa using H6⟩
        case measure => simp [intOf]; omega
      · obtain rfl : k = 2 := by omega
        obtain ⟨x0, hx0⟩ : ∃ x, xs[2]? = some x := ⟨_, List.getElem?_eq_getElem (by have := HL.out; omega)⟩
        have hc5 := HR.out.cell hx0
        have hf5 := HR.out.frozen 2
        have H6 := Lib.hid (HR.out.store (k := 2) (x := L) HL.out)
        have HL6 : Hid ((xs.set 2 L).length = 3) := Lib.hid (by rw [List.length_set]; exact HL.out)
        have HM6 : Hid (meaB (xs.set 2 L) = true) := Lib.hid ((HS.out.set_ (by have := HL.out; omega) L).mea (HA.out.set_ 2 (x := L) ⟨hL0, hL1⟩) (by omega) (by rw [HL6.out]; omega) (by rw [HL6.out]; omega))
        clear hx0 HL HA HR HS
        generalize xs.set 2 L = ys at H6 HL6 HM6
        go_wp2_with fail
        generalize wr.setCell ⟨w.heap.size, 2, none⟩ (.int .i64 L) = w6 at H6 ⊢
        clear hc5 hf5
        refine (odd_zero _ R).mono ?_
        rintro e w7 ⟨rfl, rfl⟩
        go_wp2_with fail
        go_ret
        exact ⟨_, _, rfl, H6.out.mono (by omega), HL6.out, HM6.out⟩
  · go_wp2_with fail
    clear hs0 hs1 hs2 p1 p2
    go_loopw [8, 10] (fun l c wr => ∃ (k Q : Nat) (L : Int) (xs : List Int), c = .int .i64 (k : Int) ∧ k ≤ 2 ∧ Q ≤ P + 1 + k ∧ l = .int .i64 L ∧ 0 ≤ L ∧ L ≤ 36 ∧ Hid (xs.length = 3) ∧ Hid (Bnd 36 xs) ∧ Hid (SumK xs k L) ∧ Hid (GamRel w R Q (.slice (some ⟨w.heap.size, 0, none⟩) 3 3) xs wr)) (fun _ c _ => 3 - (intOf c).toNat)
    case atStart => exact ⟨0, P + 1, 36, _, rfl, by omega, by omega, rfl, by omega, by omega, Lib.hid rfl, Lib.hid (by intro x hx; simp at hx; omega), Lib.hid ⟨by simp, fun i _ x hx => by have := List.mem_of_getElem? hx; simp at this; exact this⟩, G4⟩
    case round =>
      obtain ⟨k, Q, L, xs, rfl, hk, hQ, rfl, hL0, hL1, HL, HA, HS, HR⟩ := hrel
      clear G4
      by_cases hlt : k < 2
      · have hlt' : (k : Int) < 2 := by omega
        go_wp2_with fail
        refine (pick_any _ R Q _ (by omega) HR.out.1).mono ?_
        rintro e w5 ⟨v2, rfl, ⟨p3, p4, -⟩, k1⟩
        have p4 := p4 (by omega)
        obtain ⟨x0, hx0⟩ : ∃ x, xs[k]? = some x := ⟨_, List.getElem?_eq_getElem (by have := HL.out; omega)⟩
        have H5 := Lib.hid (HR.out.picked k1)
        have hc5 := H5.out.cell hx0
        have hf5 := H5.out.frozen k
        have H6 := Lib.hid (H5.out.store (k := k) (x := v2 * 6) HL.out)
        have HA6 := Lib.hid (HA.out.set_ k (x := v2 * 6) (by omega))
        have HS6 := Lib.hid (HS.out.set_ (by have := HL.out; omega) (v2 * 6))
        clear k1 HR hx0
        go_wp2_with fail
        go_roundw
        case rel => exact ⟨k + 1, Q + 1, _, xs.set k (v2 * 6), by go_num, by omega, by omega, rfl, by omega, by omega, Lib.hid (by rw [List.length_set]; exact HL.out), HA6, HS6, by simpa using H6⟩
        case measure => simp [intOf]; omega
      · obtain rfl : k = 2 := by omega
        obtain ⟨x0, hx0⟩ : ∃ x, xs[2]? = some x := ⟨_, List.getElem?_eq_getElem (by have := HL.out; omega)⟩
        have hc5 := HR.out.cell hx0
        have hf5 := HR.out.frozen 2
        have H6 := Lib.hid (HR.out.store (k := 2) (x := L) HL.out)
        have HL6 : Hid ((xs.set 2 L).length = 3) := Lib.hid (by rw [List.length_set]; exact HL.out)
        have HM6 : Hid (meaB (xs.set 2 L) = true) := Lib.hid ((HS.out.set_ (by have := HL.out; omega) L).mea (HA.out.set_ 2 (x := L) ⟨hL0, hL1⟩) (by omega) (by rw [HL6.out]; omega) (by rw [HL6.out]; omega))
        clear hx0 HL HA HR HS
        generalize xs.set 2 L = ys at H6 HL6 HM6
        go_wp2_with fail
        generalize wr.setCell ⟨w.heap.size, 2, none⟩ (.int .i64 L) = w6 at H6 ⊢
        clear hc5 hf5
        refine (odd_zero _ R).mono ?_
        rintro e w7 ⟨rfl, rfl⟩
        go_wp2_with fail
        go_ret
        exact ⟨_, _, rfl, H6.out.mono (by omega), HL6.out, HM6.out⟩

set_option maxRecDepth 100000 in
set_option maxHeartbeats 8000000 in
theorem l20MeasureS_4 (w : World) (R P : Nat) (hP : P ≤ 100000) (h : Rd w R P) :
    Calls Try.prog 103 #[.pointer (some ⟨R, 0, none⟩), .int .i64 4, .int .i64 0] w (MeaS w R (P + 8) 4) := by
  obtain ⟨i0, hi, hz0, hz1, hz2⟩ := info_parts Try_intinfo
  have hmk : ∀ w : World, (Instr.makeSlice 41 (.int .i64 4) (.int .i64 4)).run Try.prog w = .ok (.slice (some ⟨w.heap.size, 0, none⟩) 4 4) (w.alloc (.cells #[.int .i64 0, .int .i64 0, .int .i64 0, .int .i64 0] 3)) := by
    intro w
    have h := run_make (P := Try.prog) w 41 3 i0 (.int .i64 0) Try.underlying41 hi hz0 .i64 .i64 4 4 (by omega) (Int.le_refl _) (by rw [hz2]; omega) (by omega)
    rw [hz1] at h
    have e : madeCells (Value.int .i64 0).cells (Int.toNat 4 * 1) = #[.int .i64 0, .int .i64 0, .int .i64 0, .int .i64 0] := by kernel_rfl
    rw [e] at h
    exact h
  have hR := h.lt
  have hown0 : IOwn (w.alloc (.cells #[.int .i64 0, .int .i64 0, .int .i64 0, .int .i64 0] 3)) w.heap.size (.slice (some ⟨w.heap.size, 0, none⟩) 4 4) [0, 0, 0, 0] := World.ownsRow_lit w #[.int .i64 0, .int .i64 0, .int .i64 0, .int .i64 0] 4 (Nat.le_refl _) (by unfold maxLen; omega) rfl
  have G0 : GamRel w R P (.slice (some ⟨w.heap.size, 0, none⟩) 4 4) [0, 0, 0, 0] (w.alloc (.cells #[.int .i64 0, .int .i64 0, .int .i64 0, .int .i64 0] 3)) :=
    ⟨h.keep (by simp) (fun b hb => Below.heap_alloc w _ b hb), hown0, World.grownBy_alloc _ _ _, hR⟩
  have G1 := Lib.hid (G0.alloc (.cells #[.int .i64 1, .int .i64 2, .int .i64 6] 3))
  have KB := Lib.hid (blk_alloc (w.alloc (.cells #[.int .i64 0, .int .i64 0, .int .i64 0, .int .i64 0] 3)) #[.int .i64 1, .int .i64 2, .int .i64 6] 3)
  rw [World.size_alloc] at KB
  have HNE : Hid (w.heap.size + 1 ≠ R) := Lib.hid (by omega)
  clear G0 h hown0 hi hz0 hz1 hz2
  go_enter Try.func103, Try.ntmps103
  go_wp2_with fail
  refine (pick_any _ R P _ (by omega) G1.out.1).mono ?_
  rintro e w4 ⟨v1, rfl, ⟨p1, p2, -⟩, k1⟩
  have p2 := p2 (by decide)
  have G4 := Lib.hid (G1.out.picked k1)
  have hs0 : w4.cell? ⟨w.heap.size + 1, 0, none⟩ = some (.int .i64 1) := (KB.out.picked k1 HNE.out).cell 0
  have hs1 : w4.cell? ⟨w.heap.size + 1, 1, none⟩ = some (.int .i64 2) := (KB.out.picked k1 HNE.out).cell 1
  have hs2 : w4.cell? ⟨w.heap.size + 1, 2, none⟩ = some (.int .i64 6) := (KB.out.picked k1 HNE.out).cell 2
  clear k1 G1 KB HNE
  obtain rfl | rfl | rfl : v1 = 0 ∨ v1 = 1 ∨ v1 = 2 := by omega
  · go_wp2_with fail
    clear hs0 hs1 hs2 p1 p2
    go_loopw [8, 10] (fun l c wr => ∃ (k Q : Nat) (L : Int) (xs : List Int), c = .int .i64 (k : Int) ∧ k ≤ 3 ∧ Q ≤ P + 1 + k ∧ l = .int .i64 L ∧ 0 ≤ L ∧ L ≤ 36 ∧ Hid (xs.length = 4) ∧ Hid (Bnd 36 xs) ∧ Hid (SumK xs k L) ∧ Hid (GamRel w R Q (.slice (some ⟨w.heap.size, 0, none⟩) 4 4) xs wr)) (fun _ c _ => 4 - (intOf c).toNat)
    case atStart => exact ⟨0, P + 1, 36, _, rfl, by omega, by omega, rfl, by omega, by omega, Lib.hid rfl, Lib.hid (by intro x hx; simp at hx; omega), Lib.hid ⟨by simp, fun i _ x hx => by have := List.mem_of_getElem? hx; simp at this; exact this⟩, G4⟩
    case round =>
      obtain ⟨k, Q, L, xs, rfl, hk, hQ, rfl, hL0, hL1, HL, HA, HS, HR⟩ := hrel
      clear G4
      by_cases hlt : k < 3
      · have hlt' : (k : Int) < 3 := by omega
        go_wp2_with fail
        refine (pick_any _ R Q _ (by omega) HR.out.1).mono ?_
        rintro e w5 ⟨v2, rfl, ⟨p3, p4, -⟩, k1⟩
        have p4 := p4 (by omega)
        obtain ⟨x0, hx0⟩ : ∃ x, xs[k]? = some x := ⟨_, List.getElem?_eq_getElem (by have := HL.out; omega)⟩
        have H5 := Lib.hid (HR.out.picked k1)
        have hc5 := H5.out.cell hx0
        have hf5 := H5.out.frozen k
        have H6 := Lib.hid (H5.out.store (k := k) (x := v2) HL.out)
        have HA6 := Lib.hid (HA.out.set_ k (x := v2) (by omega))
        have HS6 := Lib.hid (HS.out.set_ (by have := HL.out; omega) (v2))
        clear k1 HR hx0
        go_wp2_with fail
        go_roundw
        case rel => exact ⟨k + 1, Q + 1, _, xs.set k (v2), by go_num, by omega, by omega, rfl, by omega, by omega, Lib.hid (by rw [List.length_set]; exact HL.out), HA6, HS6, by simpa using H6⟩
        case measure => simp [intOf]; omega
      · obtain rfl : k = 3 := by omega
        obtain ⟨x0, hx0⟩ : ∃ x, xs[3]? = some x := ⟨_, List.getElem?_eq_getElem (by have := HL.out; omega)⟩
        have hc5 := HR.out.cell hx0
        have hf5 := HR.out.frozen 3
        have H6 := Lib.hid (HR.out.store (k := 3) (x := L) HL.out)
        have HL6 : Hid ((xs.set 3 L).length = 4) := Lib.hid (by rw [List.length_set]; exact HL.out)
        have HM6 : Hid (meaB (xs.set 3 L) = true) := Lib.hid ((HS.out.set_ (by have := HL.out; omega) L).mea (HA.out.set_ 3 (x := L) ⟨hL0, hL1⟩) (by omega) (by rw [HL6.out]; omega) (by rw [HL6.out]; omega))
        clear hx0 HL HA HR HS
        generalize xs.set 3 L = ys at H6 HL6 HM6
        go_wp2_with fail
        generalize wr.setCell ⟨w.heap.size, 3, none⟩ (.int .i64 L) = w6 at H6 ⊢
        clear hc5 hf5
        refine (odd_zero _ R).mono ?_
        rintro e w7 ⟨rfl, rfl⟩
        go_wp2_with fail
        go_ret
        exact ⟨_, _, rfl, H6.out.mono (by omega), HL6.out, HM6.out⟩
  · go_wp2_with fail
    clear hs0 hs1 hs2 p1 p2
    go_loopw [8, 10] (fun l c wr => ∃ (k Q : Nat) (L : Int) (xs : List Int), c = .int .i64 (k : Int) ∧ k ≤ 3 ∧ Q ≤ P + 1 + k ∧ l = .int .i64 L ∧ 0 ≤ L ∧ L ≤ 36 ∧ Hid (xs.length = 4) ∧ Hid (Bnd 36 xs) ∧ Hid (SumK xs k L) ∧ Hid (GamRel w R Q (.slice (some ⟨w.heap.size, 0, none⟩) 4 4) xs wr)) (fun _ c _ => 4 - (intOf c).toNat)
    case atStart => exact ⟨0, P + 1, 36, _, rfl, by omega, by omega, rfl, by omega, by omega, Lib.hid rfl, Lib.hid (by intro x hx; simp at hx; omega), Lib.hid ⟨by simp, fun i _ x hx => by have := List.mem_of_getElem? hx; simp at this; exact this⟩, G4⟩
    case round =>
      obtain ⟨k, Q, L, xs, rfl, hk, hQ, rfl, hL0, hL1, HL, HA, HS, HR⟩ := hrel
      clear G4
      by_cases hlt : k < 3
      · have hlt' : (k : Int) < 3 := by omega
        go_wp2_with fail
        refine (pick_any _ R Q _ (by omega) HR.out.1).mono ?_
        rintro e w5 ⟨v2, rfl, ⟨p3, p4, -⟩, k1⟩
        have p4 := p4 (by omega)
        obtain ⟨x0, hx0⟩ : ∃ x, xs[k]? = some x := ⟨_, List.getElem?_eq_getElem (by have := HL.out; omega)⟩
        have H5 := Lib.hid (HR.out.picked k1)
        have hc5 := H5.out.cell hx0
        have hf5 := H5.out.frozen k
        have H6 := Lib.hid (H5.out.store (k := k) (x := v2 * 2) HL.out)
        have HA6 := Lib.hid (HA.out.set_ k (x := v2 * 2) (by omega))
        have HS6 := Lib.hid (HS.out.set_ (by have := HL.out; omega) (v2 * 2))
        clear k1 HR hx0
        go_wp2_with fail
        go_roundw
        case rel => exact ⟨k + 1, Q + 1, _, xs.set k (v2 * 2), by go_num, by omega, by omega, rfl, by omega, by omega, Lib.hid (by rw [List.length_set]; exact HL.out), HA6, HS6, by simpa using H6⟩
        case measure => simp [intOf]; omega
      · obtain rfl : k = 3 := by omega
        obtain ⟨x0, hx0⟩ : ∃ x, xs[3]? = some x := ⟨_, List.getElem?_eq_getElem (by have := HL.out; omega)⟩
        have hc5 := HR.out.cell hx0
        have hf5 := HR.out.frozen 3
        have H6 := Lib.hid (HR.out.store (k := 3) (x := L) HL.out)
        have HL6 : Hid ((xs.set 3 L).length = 4) := Lib.hid (by rw [List.length_set]; exact HL.out)
        have HM6 : Hid (meaB (xs.set 3 L) = true) := Lib.hid ((HS.out.set_ (by have := HL.out; omega) L).mea (HA.out.set_ 3 (x := L) ⟨hL0, hL1⟩) (by omega) (by rw [HL6.out]; omega) (by rw [HL6.out]; omega))
        clear hx0 HL HA HR HS
        generalize xs.set 3 L = ys at H6 HL6 HM6
        go_wp2_with fail
        generalize wr.setCell ⟨w.heap.size, 3, none⟩ (.int .i64 L) = w6 at H6 ⊢
        clear hc5 hf5
        refine (odd_zero _ R).mono ?_
        rintro e w7 ⟨rfl, rfl⟩
        go_wp2_with fail
        go_ret
        exact ⟨_, _, rfl, H6.out.mono (by omega), HL6.out, HM6.out⟩
  · go_wp2_with fail
    clear hs0 hs1 hs2 p1 p2
    go_loopw [8, 10] (fun l c wr => ∃ (k Q : Nat) (L : Int) (xs : List Int), c = .int .i64 (k : Int) ∧ k ≤ 3 ∧ Q ≤ P + 1 + k ∧ l = .int .i64 L ∧ 0 ≤ L ∧ L ≤ 36 ∧ Hid (xs.length = 4) ∧ Hid (Bnd 36 xs) ∧ Hid (SumK xs k L) ∧ Hid (GamRel w R Q (.slice (some ⟨w.heap.size, 0, none⟩) 4 4) xs wr)) (fun _ c _ => 4 - (intOf c).toNat)
    case atStart => exact ⟨0, P + 1, 36, _, rfl, by omega, by omega, rfl, by omega, by omega, Lib.hid rfl, Lib.hid (by intro x hx; simp at hx; omega), Lib.hid ⟨by simp, fun i _ x hx => by have := List.mem_of_getElem? hx; simp at this; exact this⟩, G4⟩
    case round =>
      obtain ⟨k, Q, L, xs, rfl, hk, hQ, rfl, hL0, hL1, HL, HA, HS, HR⟩ := hrel
      clear G4
      by_cases hlt : k < 3
      · have hlt' : (k : Int) < 3 := by omega
        go_wp2_with fail
        refine (pick_any _ R Q _ (by omega) HR.out.1).mono ?_
        rintro e w5 ⟨v2, rfl, ⟨p3, p4, -⟩, k1⟩
        have p4 := p4 (by omega)
        obtain ⟨x0, hx0⟩ : ∃ x, xs[k]? = some x := ⟨_, List.getElem?_eq_getElem (by have := HL.out; omega)⟩
        have H5 := Lib.hid (HR.out.picked k1)
        have hc5 := H5.out.cell hx0
        have hf5 := H5.out.frozen k
        have H6 := Lib.hid (H5.out.store (k := k) (x := v2 * 6) HL.out)
        have HA6 := Lib.hid (HA.out.set_ k (x := v2 * 6) (by omega))
        have HS6 := Lib.hid (HS.out.set_ (by have := HL.out; omega) (v2 * 6))
        clear k1 HR hx0
        go_wp2_with fail
        go_roundw
        case rel => exact ⟨k + 1, Q + 1, _, xs.set k (v2 * 6), by go_num, by omega, by omega, rfl, by omega, by omega, Lib.hid (by rw [List.length_set]; exact HL.out), HA6, HS6, by simpa using H6⟩
        case measure => simp [intOf]; omega
      · obtain rfl : k = 3 := by omega
        obtain ⟨x0, hx0⟩ : ∃ x, xs[3]? = some x := ⟨_, List.getElem?_eq_getElem (by have := HL.out; omega)⟩
        have hc5 := HR.out.cell hx0
        have hf5 := HR.out.frozen 3
        have H6 := Lib.hid (HR.out.store (k := 3) (x := L) HL.out)
        have HL6 : Hid ((xs.set 3 L).length = 4) := Lib.hid (by rw [List.length_set]; exact HL.out)
        have HM6 : Hid (meaB (xs.set 3 L) = true) := Lib.hid ((HS.out.set_ (by have := HL.out; omega) L).mea (HA.out.set_ 3 (x := L) ⟨hL0, hL1⟩) (by omega) (by rw [HL6.out]; omega) (by rw [HL6.out]; omega))
        clear hx0 HL HA HR HS
        generalize xs.set 3 L = ys at H6 HL6 HM6
        go_wp2_with fail
        generalize wr.setCell ⟨w.heap.size, 3, none⟩ (.int .i64 L) = w6 at H6 ⊢
        clear hc5 hf5
        refine (odd_zero _ R).mono ?_
        rintro e w7 ⟨rfl, rfl⟩
        go_wp2_with fail
        go_ret
        exact ⟨_, _, rfl, H6.out.mono (by omega), HL6.out, HM6.out⟩

theorem l20MeasureS_any (w : World) (R P : Nat) (n : Int) (hP : P ≤ 100000) (h : Rd w R P) (h1 : 1 ≤ n) (h2 : n ≤ 4) :
    Calls Try.prog 103 #[.pointer (some ⟨R, 0, none⟩), .int .i64 n, .int .i64 0] w (MeaS w R (P + 8) n.toNat) := by
  obtain rfl | rfl | rfl | rfl : n = 1 ∨ n = 2 ∨ n = 3 ∨ n = 4 := by omega
  · exact l20MeasureS_1 w R P hP h
  · exact l20MeasureS_2 w R P hP h
  · exact l20MeasureS_3 w R P hP h
  · exact l20MeasureS_4 w R P hP h

end Go.Proofs.Yteljcicdibbhdaa
