/- What is drawn of measures: l20Measure. Conditions: a reader, few picks before. -/
import Derived.Test.YteljcicdibbhdaaDi
import Derived.Test.YteljcicdibbhdaaDt
import Derived.Test.YteljcicdibbhdaaMe
namespace Go.Proofs.Yteljcicdibbhdaa
open Go.RowKit
set_option linter.unusedVariables false

/-- numbers from 0 to B -/
def Bnd (B : Int) (xs : List Int) : Prop := ∀ x ∈ xs, 0 ≤ x ∧ x ≤ B

theorem Bnd.at_ {B : Int} {xs : List Int} (h : Bnd B xs) {k : Nat} {x : Int} (hx : xs[k]? = some x) : 0 ≤ x ∧ x ≤ B := h x (List.mem_of_getElem? hx)

theorem Bnd.set_ {B : Int} {xs : List Int} (h : Bnd B xs) (k : Nat) {x : Int} (hx : 0 ≤ x ∧ x ≤ B) : Bnd B (xs.set k x) := fun y hy => by
  rcases List.mem_or_eq_of_mem_set hy with h1 | h1
  · exact h y h1
  · rw [h1]; exact hx

theorem Bnd.mono {B C : Int} {xs : List Int} (h : Bnd B xs) (hBC : B ≤ C) : Bnd C xs := fun x hx => by have := h x hx; omega

theorem GamRel.alloc {w wr : World} {R P : Nat} {p : Value} {xs : List Int} (h : GamRel w R P p xs wr) (o : Obj) : GamRel w R P p xs (wr.alloc o) :=
  ⟨h.1.keep (by simp) (fun b hb => Below.heap_alloc wr o b hb), h.2.1.keep (SameAt.grow rfl), grow_trans h.2.2.1 (World.grownBy_alloc wr o (some R)), h.2.2.2⟩

/-- a measure that was drawn: it need not be one -/
def MeaR (w : World) (R P : Nat) (e : Ending) (w' : World) : Prop := ∃ v xs, e = .returned v ∧ GamRel w R P v xs w' ∧ xs.length ≤ 4 ∧ Bnd 37 xs

set_option maxHeartbeats 8000000 in
theorem l20Measure_1 (w : World) (R P : Nat) (m : Int) (hP : P ≤ 100000) (h : Rd w R P) (m1 : 1 ≤ m) (m2 : m ≤ 1000) :
    Calls Try.prog 103 #[.pointer (some ⟨R, 0, none⟩), .int .i64 1, .int .i64 m] w (MeaR w R (P + 8)) := by
  obtain ⟨i0, hi, hz0, hz1, hz2⟩ := info_parts Try_intinfo
  have hmk : ∀ w : World, (Instr.makeSlice 41 (.int .i64 1) (.int .i64 1)).run Try.prog w = .ok (.slice (some ⟨w.heap.size, 0, none⟩) 1 1) (w.alloc (.cells #[.int .i64 0] 3)) := by
    intro w
    have h := run_make (P := Try.prog) w 41 3 i0 (.int .i64 0) Try.underlying41 hi hz0 .i64 .i64 1 1 (by omega) (Int.le_refl _) (by rw [hz2]; omega) (by omega)
    rw [hz1] at h
    have e : madeCells (Value.int .i64 0).cells (Int.toNat 1 * 1) = #[.int .i64 0] := by kernel_rfl
    rw [e] at h
    exact h
  have hR := h.lt
  have hown0 : IOwn (w.alloc (.cells #[.int .i64 0] 3)) w.heap.size (.slice (some ⟨w.heap.size, 0, none⟩) 1 1) [0] := World.ownsRow_lit w #[.int .i64 0] 1 (Nat.le_refl _) (by unfold maxLen; omega) rfl
  have G0 : GamRel w R P (.slice (some ⟨w.heap.size, 0, none⟩) 1 1) [0] (w.alloc (.cells #[.int .i64 0] 3)) :=
    ⟨h.keep (by simp) (fun b hb => Below.heap_alloc w _ b hb), hown0, World.grownBy_alloc _ _ _, hR⟩
  have G1 := Lib.hid (G0.alloc (.cells #[.int .i64 1, .int .i64 2, .int .i64 6] 3))
  have KB := Lib.hid (blk_alloc (w.alloc (.cells #[.int .i64 0] 3)) #[.int .i64 1, .int .i64 2, .int .i64 6] 3)
  rw [World.size_alloc] at KB
  have HNE : Hid (w.heap.size + 1 ≠ R) := Lib.hid (by omega)
  clear G0 h hown0 hi hz0 hz1 hz2
  go_enter Try.func103, Try.ntmps103
  go_wp2_with fail
  refine (pick_any _ R P _ (by omega) G1.out.1).mono ?_
  rintro e w4 ⟨v1, rfl, ⟨p1, p2, -⟩, k1⟩
  have p2 := p2 (by decide)
  have G4 := Lib.hid (G1.out.picked k1)
  have hs0 : w4.cell? ⟨w.heap.size + 1, 0, none⟩ = some (.int .i64 1) := (KB.out.picked k1 HNE.out).cell 0
  have hs1 : w4.cell? ⟨w.heap.size + 1, 1, none⟩ = some (.int .i64 2) := (KB.out.picked k1 HNE.out).cell 1
  have hs2 : w4.cell? ⟨w.heap.size + 1, 2, none⟩ = some (.int .i64 6) := (KB.out.picked k1 HNE.out).cell 2
  clear k1 G1 KB HNE
  obtain rfl | rfl | rfl : v1 = 0 ∨ v1 = 1 ∨ v1 = 2 := by omega
  · go_wp2_with fail
    clear hs0 hs1 hs2 p1 p2
    go_loopw [8, 10] (fun l c wr => ∃ (k Q : Nat) (L : Int) (xs : List Int), c = .int .i64 (k : Int) ∧ k ≤ 0 ∧ Q ≤ P + 1 + k ∧ l = .int .i64 L ∧ 0 ≤ L ∧ L ≤ 36 ∧ Hid (xs.length = 1) ∧ Hid (Bnd 36 xs) ∧ Hid (GamRel w R Q (.slice (some ⟨w.heap.size, 0, none⟩) 1 1) xs wr)) (fun _ c _ => 1 - (intOf c).toNat)
    case atStart => exact ⟨0, P + 1, 36, _, rfl, by omega, by omega, rfl, by omega, by omega, Lib.hid rfl, Lib.hid (by intro x hx; simp at hx; omega), G4⟩
    case round =>
      obtain ⟨k, Q, L, xs, rfl, hk, hQ, rfl, hL0, hL1, HL, HA, HR⟩ := hrel
      clear G4
      by_cases hlt : k < 0
      · exact absurd hlt (Nat.not_lt_zero _)
      · obtain rfl : k = 0 := by omega
        obtain ⟨x0, hx0⟩ : ∃ x, xs[0]? = some x := ⟨_, List.getElem?_eq_getElem (by have := HL.out; omega)⟩
        have hc5 := HR.out.cell hx0
        have hf5 := HR.out.frozen 0
        have H6 := Lib.hid (HR.out.store (k := 0) (x := L) HL.out)
        have HA6 := Lib.hid (HA.out.set_ 0 (x := L) ⟨hL0, hL1⟩)
        have HL6 : Hid ((xs.set 0 L).length = 1) := Lib.hid (by rw [List.length_set]; exact HL.out)
        clear hx0 HL HA HR
        generalize xs.set 0 L = ys at H6 HA6 HL6
        go_wp2_with fail
        generalize wr.setCell ⟨w.heap.size, 0, none⟩ (.int .i64 L) = w6 at H6 ⊢
        clear hc5 hf5
        refine (odd_any _ R Q _ m1 (by omega) (by omega) H6.out.1).mono ?_
        rintro e w7 ⟨b, rfl, k1⟩
        have H7 := Lib.hid (H6.out.picked k1)
        clear k1 H6
        cases b
        · go_wp2_with fail
          go_ret
          exact ⟨_, _, rfl, H7.out.mono (by omega), by rw [HL6.out]; omega, HA6.out.mono (by decide)⟩
        · go_wp2_with fail
          refine (pick_any _ R (Q + 1) _ (by omega) H7.out.1).mono ?_
          rintro e w8 ⟨v3, rfl, ⟨p5, p6, -⟩, k1⟩
          have p6 := p6 (by decide)
          have H8 := Lib.hid (H7.out.picked k1)
          clear k1 H7
          obtain rfl | rfl : v3 = 0 ∨ v3 = 1 := by omega
          · obtain ⟨y0, hy0⟩ : ∃ x, ys[0]? = some x := ⟨_, List.getElem?_eq_getElem (by have := HL6.out; omega)⟩
            obtain ⟨y1, y2⟩ := HA6.out.at_ hy0
            have hc8 := H8.out.cell hy0
            have hf8 := H8.out.frozen 0
            have H9 := Lib.hid (H8.out.store (k := 0) (x := y0 + 1) HL6.out)
            have HA9 := Lib.hid ((HA6.out.mono (C := 37) (by decide)).set_ 0 (x := y0 + 1) (by omega))
            clear hy0
            go_wp2_with fail
            go_ret
            exact ⟨_, _, rfl, H9.out.mono (by omega), by rw [List.length_set, HL6.out]; omega, HA9.out⟩
          · have H9 := Lib.hid H8.out.anew
            go_wp2_with fail
            go_ret
            exact ⟨_, _, rfl, H9.out.mono (by omega), by simp, fun x hx => by cases hx⟩
  · go_wp2_with fail
    clear hs0 hs1 hs2 p1 p2
    go_loopw [8, 10] (fun l c wr => ∃ (k Q : Nat) (L : Int) (xs : List Int), c = .int .i64 (k : Int) ∧ k ≤ 0 ∧ Q ≤ P + 1 + k ∧ l = .int .i64 L ∧ 0 ≤ L ∧ L ≤ 36 ∧ Hid (xs.length = 1) ∧ Hid (Bnd 36 xs) ∧ Hid (GamRel w R Q (.slice (some ⟨w.heap.size, 0, none⟩) 1 1) xs wr)) (fun _ c _ => 1 - (intOf c).toNat)
    case atStart => exact ⟨0, P + 1, 36, _, rfl, by omega, by omega, rfl, by omega, by omega, Lib.hid rfl, Lib.hid (by intro x hx; simp at hx; omega), G4⟩
    case round =>
      obtain ⟨k, Q, L, xs, rfl, hk, hQ, rfl, hL0, hL1, HL, HA, HR⟩ := hrel
      clear G4
      by_cases hlt : k < 0
      · exact absurd hlt (Nat.not_lt_zero _)
      · obtain rfl : k = 0 := by omega
        obtain ⟨x0, hx0⟩ : ∃ x, xs[0]? = some x := ⟨_, List.getElem?_eq_getElem (by have := HL.out; omega)⟩
        have hc5 := HR.out.cell hx0
        have hf5 := HR.out.frozen 0
        have H6 := Lib.hid (HR.out.store (k := 0) (x := L) HL.out)
        have HA6 := Lib.hid (HA.out.set_ 0 (x := L) ⟨hL0, hL1⟩)
        have HL6 : Hid ((xs.set 0 L).length = 1) := Lib.hid (by rw [List.length_set]; exact HL.out)
        clear hx0 HL HA HR
        generalize xs.set 0 L = ys at H6 HA6 HL6
        go_wp2_with fail
        generalize wr.setCell ⟨w.heap.size, 0, none⟩ (.int .i64 L) = w6 at H6 ⊢
        clear hc5 hf5
        refine (odd_any _ R Q _ m1 (by omega) (by omega) H6.out.1).mono ?_
        rintro e w7 ⟨b, rfl, k1⟩
        have H7 := Lib.hid (H6.out.picked k1)
        clear k1 H6
        cases b
        · go_wp2_with fail
          go_ret
          exact ⟨_, _, rfl, H7.out.mono (by omega), by rw [HL6.out]; omega, HA6.out.mono (by decide)⟩
        · go_wp2_with fail
          refine (pick_any _ R (Q + 1) _ (by omega) H7.out.1).mono ?_
          rintro e w8 ⟨v3, rfl, ⟨p5, p6, -⟩, k1⟩
          have p6 := p6 (by decide)
          have H8 := Lib.hid (H7.out.picked k1)
          clear k1 H7
          obtain rfl | rfl : v3 = 0 ∨ v3 = 1 := by omega
          · obtain ⟨y0, hy0⟩ : ∃ x, ys[0]? = some x := ⟨_, List.getElem?_eq_getElem (by have := HL6.out; omega)⟩
            obtain ⟨y1, y2⟩ := HA6.out.at_ hy0
            have hc8 := H8.out.cell hy0
            have hf8 := H8.out.frozen 0
            have H9 := Lib.hid (H8.out.store (k := 0) (x := y0 + 1) HL6.out)
            have HA9 := Lib.hid ((HA6.out.mono (C := 37) (by decide)).set_ 0 (x := y0 + 1) (by omega))
            clear hy0
            go_wp2_with fail
            go_ret
            exact ⟨_, _, rfl, H9.out.mono (by omega), by rw [List.length_set, HL6.out]; omega, HA9.out⟩
          · have H9 := Lib.hid H8.out.anew
            go_wp2_with fail
            go_ret
            exact ⟨_, _, rfl, H9.out.mono (by omega), by simp, fun x hx => by cases hx⟩
  · go_wp2_with fail
    clear hs0 hs1 hs2 p1 p2
    go_loopw [8, 10] (fun l c wr => ∃ (k Q : Nat) (L : Int) (xs : List Int), c = .int .i64 (k : Int) ∧ k ≤ 0 ∧ Q ≤ P + 1 + k ∧ l = .int .i64 L ∧ 0 ≤ L ∧ L ≤ 36 ∧ Hid (xs.length = 1) ∧ Hid (Bnd 36 xs) ∧ Hid (GamRel w R Q (.slice (some ⟨w.heap.size, 0, none⟩) 1 1) xs wr)) (fun _ c _ => 1 - (intOf c).toNat)
    case atStart => exact ⟨0, P + 1, 36, _, rfl, by omega, by omega, rfl, by omega, by omega, Lib.hid rfl, Lib.hid (by intro x hx; simp at hx; omega), G4⟩
    case round =>
      obtain ⟨k, Q, L, xs, rfl, hk, hQ, rfl, hL0, hL1, HL, HA, HR⟩ := hrel
      clear G4
      by_cases hlt : k < 0
      · exact absurd hlt (Nat.not_lt_zero _)
      · obtain rfl : k = 0 := by omega
        obtain ⟨x0, hx0⟩ : ∃ x, xs[0]? = some x := ⟨_, List.getElem?_eq_getElem (by have := HL.out; omega)⟩
        have hc5 := HR.out.cell hx0
        have hf5 := HR.out.frozen 0
        have H6 := Lib.hid (HR.out.store (k := 0) (x := L) HL.out)
        have HA6 := Lib.hid (HA.out.set_ 0 (x := L) ⟨hL0, hL1⟩)
        have HL6 : Hid ((xs.set 0 L).length = 1) := Lib.hid (by rw [List.length_set]; exact HL.out)
        clear hx0 HL HA HR
        generalize xs.set 0 L = ys at H6 HA6 HL6
        go_wp2_with fail
        generalize wr.setCell ⟨w.heap.size, 0, none⟩ (.int .i64 L) = w6 at H6 ⊢
        clear hc5 hf5
        refine (odd_any _ R Q _ m1 (by omega) (by omega) H6.out.1).mono ?_
        rintro e w7 ⟨b, rfl, k1⟩
        have H7 := Lib.hid (H6.out.picked k1)
        clear k1 H6
        cases b
        · go_wp2_with fail
          go_ret
          exact ⟨_, _, rfl, H7.out.mono (by omega), by rw [HL6.out]; omega, HA6.out.mono (by decide)⟩
        · go_wp2_with fail
          refine (pick_any _ R (Q + 1) _ (by omega) H7.out.1).mono ?_
          rintro e w8 ⟨v3, rfl, ⟨p5, p6, -⟩, k1⟩
          have p6 := p6 (by decide)
          have H8 := Lib.hid (H7.out.picked k1)
          clear k1 H7
          obtain rfl | rfl : v3 = 0 ∨ v3 = 1 := by omega
          · obtain ⟨y0, hy0⟩ : ∃ x, ys[0]? = some x := ⟨_, List.getElem?_eq_getElem (by have := HL6.out; omega)⟩
            obtain ⟨y1, y2⟩ := HA6.out.at_ hy0
            have hc8 := H8.out.cell hy0
            have hf8 := H8.out.frozen 0
            have H9 := Lib.hid (H8.out.store (k := 0) (x := y0 + 1) HL6.out)
            have HA9 := Lib.hid ((HA6.out.mono (C := 37) (by decide)).set_ 0 (x := y0 + 1) (by omega))
            clear hy0
            go_wp2_with fail
            go_ret
            exact ⟨_, _, rfl, H9.out.mono (by omega), by rw [List.length_set, HL6.out]; omega, HA9.out⟩
          · have H9 := Lib.hid H8.out.anew
            go_wp2_with fail
            go_ret
            exact ⟨_, _, rfl, H9.out.mono (by omega), by simp, fun x hx => by cases hx⟩

set_option maxHeartbeats 8000000 in
theorem l20Measure_2 (w : World) (R P : Nat) (m : Int) (hP : P ≤ 100000) (h : Rd w R P) (m1 : 1 ≤ m) (m2 : m ≤ 1000) :
    Calls Try.prog 103 #[.pointer (some ⟨R, 0, none⟩), .int .i64 2, .int .i64 m] w (MeaR w R (P + 8)) := by
  obtain ⟨i0, hi, hz0, hz1, hz2⟩ := info_parts Try_intinfo
  have hmk : ∀ w : World, (Instr.makeSlice 41 (.int .i64 2) (.int .i64 2)).run Try.prog w = .ok (.slice (some ⟨w.heap.size, 0, none⟩) 2 2) (w.alloc (.cells #[.int .i64 0, .int .i64 0] 3)) := by
    intro w
    have h := run_make (P := Try.prog) w 41 3 i0 (.int .i64 0) Try.underlying41 hi hz0 .i64 .i64 2 2 (by omega) (Int.le_refl _) (by rw [hz2]; omega) (by omega)
    rw [hz1] at h
    have e : madeCells (Value.int .i64 0).cells (Int.toNat 2 * 1) = #[.int .i64 0, .int .i64 0] := by kernel_rfl
    rw [e] at h
    exact h
  have hR := h.lt
  have hown0 : IOwn (w.alloc (.cells #[.int .i64 0, .int .i64 0] 3)) w.heap.size (.slice (some ⟨w.heap.size, 0, none⟩) 2 2) [0, 0] := World.ownsRow_lit w #[.int .i64 0, .int .i64 0] 2 (Nat.le_refl _) (by unfold maxLen; omega) rfl
  have G0 : GamRel w R P (.slice (some ⟨w.heap.size, 0, none⟩) 2 2) [0, 0] (w.alloc (.cells #[.int .i64 0, .int .i64 0] 3)) :=
    ⟨h.keep (by simp) (fun b hb => Below.heap_alloc w _ b hb), hown0, World.grownBy_alloc _ _ _, hR⟩
  have G1 := Lib.hid (G0.alloc (.cells #[.int .i64 1, .int .i64 2, .int .i64 6] 3))
  have KB := Lib.hid (blk_alloc (w.alloc (.cells #[.int .i64 0, .int .i64 0] 3)) #[.int .i64 1, .int .i64 2, .int .i64 6] 3)
  rw [World.size_alloc] at KB
  have HNE : Hid (w.heap.size + 1 ≠ R) := Lib.hid (by omega)
  clear G0 h hown0 hi hz0 hz1 hz2
  go_enter Try.func103, Try.ntmps103
  go_wp2_with fail
  refine (pick_any _ R P _ (by omega) G1.out.1).mono ?_
  rintro e w4 ⟨v1, rfl, ⟨p1, p2, -⟩, k1⟩
  have p2 := p2 (by decide)
  have G4 := Lib.hid (G1.out.picked k1)
  have hs0 : w4.cell? ⟨w.heap.size + 1, 0, none⟩ = some (.int .i64 1) := (KB.out.picked k1 HNE.out).cell 0
  have hs1 : w4.cell? ⟨w.heap.size + 1, 1, none⟩ = some (.int .i64 2) := (KB.out.picked k1 HNE.out).cell 1
  have hs2 : w4.cell? ⟨w.heap.size + 1, 2, none⟩ = some (.int .i64 6) := (KB.out.picked k1 HNE.out).cell 2
  clear k1 G1 KB HNE
  obtain rfl | rfl | rfl : v1 = 0 ∨ v1 = 1 ∨ v1 = 2 := by omega
  · go_wp2_with fail
    clear hs0 hs1 hs2 p1 p2
    go_loopw [8, 10] (fun l c wr => ∃ (k Q : Nat) (L : Int) (xs : List Int), c = .int .i64 (k : Int) ∧ k ≤ 1 ∧ Q ≤ P + 1 + k ∧ l = .int .i64 L ∧ 0 ≤ L ∧ L ≤ 36 ∧ Hid (xs.length = 2) ∧ Hid (Bnd 36 xs) ∧ Hid (GamRel w R Q (.slice (some ⟨w.heap.size, 0, none⟩) 2 2) xs wr)) (fun _ c _ => 2 - (intOf c).toNat)
    case atStart => exact ⟨0, P + 1, 36, _, rfl, by omega, by omega, rfl, by omega, by omega, Lib.hid rfl, Lib.hid (by intro x hx; simp at hx; omega), G4⟩
    case round =>
      obtain ⟨k, Q, L, xs, rfl, hk, hQ, rfl, hL0, hL1, HL, HA, HR⟩ := hrel
      clear G4
      by_cases hlt : k < 1
      · have hlt' : (k : Int) < 1 := by omega
        go_wp2_with fail
        refine (pick_any _ R Q _ (by omega) HR.out.1).mono ?_
        rintro e w5 ⟨v2, rfl, ⟨p3, p4, -⟩, k1⟩
        have p4 := p4 (by omega)
        obtain ⟨x0, hx0⟩ : ∃ x, xs[k]? = some x := ⟨_, List.getElem?_eq_getElem (by have := HL.out; omega)⟩
        have H5 := Lib.hid (HR.out.picked k1)
        have hc5 := H5.out.cell hx0
        have hf5 := H5.out.frozen k
        have H6 := Lib.hid (H5.out.store (k := k) (x := v2) HL.out)
        have HA6 := Lib.hid (HA.out.set_ k (x := v2) (by omega))
        clear k1 HR hx0
        go_wp2_with fail
        go_roundw
        case rel => exact ⟨k + 1, Q + 1, _, xs.set k (v2), by go_num, by omega, by omega, rfl, by omega, by omega, Lib.hid (by rw [List.length_set]; exact HL.out), HA6, by simpa using H6⟩
        case measure => simp [intOf]; omega
      · obtain rfl : k = 1 := by omega
        obtain ⟨x0, hx0⟩ : ∃ x, xs[1]? = some x := ⟨_, List.getElem?_eq_getElem (by have := HL.out; omega)⟩
        have hc5 := HR.out.cell hx0
        have hf5 := HR.out.frozen 1
        have H6 := Lib.hid (HR.out.store (k := 1) (x := L) HL.out)
        have HA6 := Lib.hid (HA.out.set_ 1 (x := L) ⟨hL0, hL1⟩)
        have HL6 : Hid ((xs.set 1 L).length = 2) := Lib.hid (by rw [List.length_set]; exact HL.out)
        clear hx0 HL HA HR
        generalize xs.set 1 L = ys at H6 HA6 HL6
        go_wp2_with fail
        generalize wr.setCell ⟨w.heap.size, 1, none⟩ (.int .i64 L) = w6 at H6 ⊢
        clear hc5 hf5
        refine (odd_any _ R Q _ m1 (by omega) (by omega) H6.out.1).mono ?_
        rintro e w7 ⟨b, rfl, k1⟩
        have H7 := Lib.hid (H6.out.picked k1)
        clear k1 H6
        cases b
        · go_wp2_with fail
          go_ret
          exact ⟨_, _, rfl, H7.out.mono (by omega), by rw [HL6.out]; omega, HA6.out.mono (by decide)⟩
        · go_wp2_with fail
          refine (pick_any _ R (Q + 1) _ (by omega) H7.out.1).mono ?_
          rintro e w8 ⟨v3, rfl, ⟨p5, p6, -⟩, k1⟩
          have p6 := p6 (by decide)
          have H8 := Lib.hid (H7.out.picked k1)
          clear k1 H7
          obtain rfl | rfl : v3 = 0 ∨ v3 = 1 := by omega
          · obtain ⟨y0, hy0⟩ : ∃ x, ys[0]? = some x := ⟨_, List.getElem?_eq_getElem (by have := HL6.out; omega)⟩
            obtain ⟨y1, y2⟩ := HA6.out.at_ hy0
            have hc8 := H8.out.cell hy0
            have hf8 := H8.out.frozen 0
            have H9 := Lib.hid (H8.out.store (k := 0) (x := y0 + 1) HL6.out)
            have HA9 := Lib.hid ((HA6.out.mono (C := 37) (by decide)).set_ 0 (x := y0 + 1) (by omega))
            clear hy0
            go_wp2_with fail
            go_ret
            exact ⟨_, _, rfl, H9.out.mono (by omega), by rw [List.length_set, HL6.out]; omega, HA9.out⟩
          · have H9 := Lib.hid H8.out.anew
            go_wp2_with fail
            go_ret
            exact ⟨_, _, rfl, H9.out.mono (by omega), by simp, fun x hx => by cases hx⟩
  · go_wp2_with fail
    clear hs0 hs1 hs2 p1 p2
    go_loopw [8, 10] (fun l c wr => ∃ (k Q : Nat) (L : Int) (xs : List Int), c = .int .i64 (k : Int) ∧ k ≤ 1 ∧ Q ≤ P + 1 + k ∧ l = .int .i64 L ∧ 0 ≤ L ∧ L ≤ 36 ∧ Hid (xs.length = 2) ∧ Hid (Bnd 36 xs) ∧ Hid (GamRel w R Q (.slice (some ⟨w.heap.size, 0, none⟩) 2 2) xs wr)) (fun _ c _ => 2 - (intOf c).toNat)
    case atStart => exact ⟨0, P + 1, 36, _, rfl, by omega, by omega, rfl, by omega, by omega, Lib.hid rfl, Lib.hid (by intro x hx; simp at hx; omega), G4⟩
    case round =>
      obtain ⟨k, Q, L, xs, rfl, hk, hQ, rfl, hL0, hL1, HL, HA, HR⟩ := hrel
      clear G4
      by_cases hlt : k < 1
      · have hlt' : (k : Int) < 1 := by omega
        go_wp2_with fail
        refine (pick_any _ R Q _ (by omega) HR.out.1).mono ?_
        rintro e w5 ⟨v2, rfl, ⟨p3, p4, -⟩, k1⟩
        have p4 := p4 (by omega)
        obtain ⟨x0, hx0⟩ : ∃ x, xs[k]? = some x := ⟨_, List.getElem?_eq_getElem (by have := HL.out; omega)⟩
        have H5 := Lib.hid (HR.out.picked k1)
        have hc5 := H5.out.cell hx0
        have hf5 := H5.out.frozen k
        have H6 := Lib.hid (H5.out.store (k := k) (x := v2 * 2) HL.out)
        have HA6 := Lib.hid (HA.out.set_ k (x := v2 * 2) (by omega))
        clear k1 HR hx0
        go_wp2_with fail
        go_roundw
        case rel => exact ⟨k + 1, Q + 1, _, xs.set k (v2 * 2), by go_num, by omega, by omega, rfl, by omega, by omega, Lib.hid (by rw [List.length_set]; exact HL.out), HA6, by simpa using H6⟩
        case measure => simp [intOf]; omega
      · obtain rfl : k = 1 := by omega
        obtain ⟨x0, hx0⟩ : ∃ x, xs[1]? = some x := ⟨_, List.getElem?_eq_getElem (by have := HL.out; omega)⟩
        have hc5 := HR.out.cell hx0
        have hf5 := HR.out.frozen 1
        have H6 := Lib.hid (HR.out.store (k := 1) (x := L) HL.out)
        have HA6 := Lib.hid (HA.out.set_ 1 (x := L) ⟨hL0, hL1⟩)
        have HL6 : Hid ((xs.set 1 L).length = 2) := Lib.hid (by rw [List.length_set]; exact HL.out)
        clear hx0 HL HA HR
        generalize xs.set 1 L = ys at H6 HA6 HL6
        go_wp2_with fail
        generalize wr.setCell ⟨w.heap.size, 1, none⟩ (.int .i64 L) = w6 at H6 ⊢
        clear hc5 hf5
        refine (odd_any _ R Q _ m1 (by omega) (by omega) H6.out.1).mono ?_
        rintro e w7 ⟨b, rfl, k1⟩
        have H7 := Lib.hid (H6.out.picked k1)
        clear k1 H6
        cases b
        · go_wp2_with fail
          go_ret
          exact ⟨_, _, rfl, H7.out.mono (by omega), by rw [HL6.out]; omega, HA6.out.mono (by decide)⟩
        · go_wp2_with fail
          refine (pick_any _ R (Q + 1) _ (by omega) H7.out.1).mono ?_
          rintro e w8 ⟨v3, rfl, ⟨p5, p6, -⟩, k1⟩
          have p6 := p6 (by decide)
          have H8 := Lib.hid (H7.out.picked k1)
          clear k1 H7
          obtain rfl | rfl : v3 = 0 ∨ v3 = 1 := by omega
          · obtain ⟨y0, hy0⟩ : ∃ x, ys[0]? = some x := ⟨_, List.getElem?_eq_getElem (by have := HL6.out; omega)⟩
            obtain ⟨y1, y2⟩ := HA6.out.at_ hy0
            have hc8 := H8.out.cell hy0
            have hf8 := H8.out.frozen 0
            have H9 := Lib.hid (H8.out.store (k := 0) (x := y0 + 1) HL6.out)
            have HA9 := Lib.hid ((HA6.out.mono (C := 37) (by decide)).set_ 0 (x := y0 + 1) (by omega))
            clear hy0
            go_wp2_with fail
            go_ret
            exact ⟨_, _, rfl, H9.out.mono (by omega), by rw [List.length_set, HL6.out]; omega, HA9.out⟩
          · have H9 := Lib.hid H8.out.anew
            go_wp2_with fail
            go_ret
            exact ⟨_, _, rfl, H9.out.mono (by omega), by simp, fun x hx => by cases hx⟩
  · go_wp2_with fail
    clear hs0 hs1 hs2 p1 p2
    go_loopw [8, 10] (fun l c wr => ∃ (k Q : Nat) (L : Int) (xs : List Int), c = .int .i64 (k : Int) ∧ k ≤ 1 ∧ Q ≤ P + 1 + k ∧ l = .int .i64 L ∧ 0 ≤ L ∧ L ≤ 36 ∧ Hid (xs.length = 2) ∧ Hid (Bnd 36 xs) ∧ Hid (GamRel w R Q (.slice (some ⟨w.heap.size, 0, none⟩) 2 2) xs wr)) (fun _ c _ => 2 - (intOf c).toNat)
    case atStart => exact ⟨0, P + 1, 36, _, rfl, by omega, by omega, rfl, by omega, by omega, Lib.hid rfl, Lib.hid (by intro x hx; simp at hx; omega), G4⟩
    case round =>
      obtain ⟨k, Q, L, xs, rfl, hk, hQ, rfl, hL0, hL1, HL, HA, HR⟩ := hrel
      clear G4
      by_cases hlt : k < 1
      · have hlt' : (k : Int) < 1 := by omega
        go_wp2_with fail
        refine (pick_any _ R Q _ (by omega) HR.out.1).mono ?_
        rintro e w5 ⟨v2, rfl, ⟨p3, p4, -⟩, k1⟩
        have p4 := p4 (by omega)
        obtain ⟨x0, hx0⟩ : ∃ x, xs[k]? = some x := ⟨_, List.getElem?_eq_getElem (by have := HL.out; omega)⟩
        have H5 := Lib.hid (HR.out.picked k1)
        have hc5 := H5.out.cell hx0
        have hf5 := H5.out.frozen k
        have H6 := Lib.hid (H5.out.store (k := k) (x := v2 * 6) HL.out)
        have HA6 := Lib.hid (HA.out.set_ k (x := v2 * 6) (by omega))
        clear k1 HR hx0
        go_wp2_with fail
        go_roundw
        case rel => exact ⟨k + 1, Q + 1, _, xs.set k (v2 * 6), by go_num, by omega, by omega, rfl, by omega, by omega, Lib.hid (by rw [List.length_set]; exact HL.out), HA6, by simpa using H6⟩
        case measure => simp [intOf]; omega
      · obtain rfl : k = 1 := by omega
        obtain ⟨x0, hx0⟩ : ∃ x, xs[1]? = some x := ⟨_, List.getElem?_eq_getElem (by have := HL.out; omega)⟩
        have hc5 := HR.out.cell hx0
        have hf5 := HR.out.frozen 1
        have H6 := Lib.hid (HR.out.store (k := 1) (x := L) HL.out)
        have HA6 := Lib.hid (HA.out.set_ 1 (x := L) ⟨hL0, hL1⟩)
        have HL6 : Hid ((xs.set 1 L).length = 2) := Lib.hid (by rw [List.length_set]; exact HL.out)
        clear hx0 HL HA HR
        generalize xs.set 1 L = ys at H6 HA6 HL6
        go_wp2_with fail
        generalize wr.setCell ⟨w.heap.size, 1, none⟩ (.int .i64 L) = w6 at H6 ⊢
        clear hc5 hf5
        refine (odd_any _ R Q _ m1 (by omega) (by omega) H6.out.1).mono ?_
        rintro e w7 ⟨b, rfl, k1⟩
        have H7 := Lib.hid (H6.out.picked k1)
        clear k1 H6
        cases b
        · go_wp2_with fail
          go_ret
          exact ⟨_, _, rfl, H7.out.mono (by omega), by rw [HL6.out]; omega, HA6.out.mono (by decide)⟩
        · go_wp2_with fail
          refine (pick_any _ R (Q + 1) _ (by omega) H7.out.1).mono ?_
          rintro e w8 ⟨v3, rfl, ⟨p5, p6, -⟩, k1⟩
          have p6 := p6 (by decide)
          have H8 := Lib.hid (H7.out.picked k1)
          clear k1 H7
          obtain rfl | rfl : v3 = 0 ∨ v3 = 1 := by omega
          · obtain ⟨y0, hy0⟩ : ∃ x, ys[0]? = some x := ⟨_, List.getElem?_eq_getElem (by have := HL6.out; omega)⟩
            obtain ⟨y1, y2⟩ := HA6.out.at_ hy0
            have hc8 := H8.out.cell hy0
            have hf8 := H8.out.frozen 0
            have H9 := Lib.hid (H8.out.store (k := 0) (x := y0 + 1) HL6.out)
            have HA9 := Lib.hid ((HA6.out.mono (C := 37) (by decide)).set_ 0 (x := y0 + 1) (by omega))
            clear hy0
            go_wp2_with fail
            go_ret
            exact ⟨_, _, rfl, H9.out.mono (by omega), by rw [List.length_set, HL6.out]; omega, HA9.out⟩
          · have H9 := Lib.hid H8.out.anew
            go_wp2_with fail
            go_ret
            exact ⟨_, _, rfl, H9.out.mono (by omega), by simp, fun x hx => by cases hx⟩

set_option maxHeartbeats 8000000 in
theorem l20Measure_3 (w : World) (R P : Nat) (m : Int) (hP : P ≤ 100000) (h : Rd w R P) (m1 : 1 ≤ m) (m2 : m ≤ 1000) :
    Calls Try.prog 103 #[.pointer (some ⟨R, 0, none⟩), .int .i64 3, .int .i64 m] w (MeaR w R (P + 8)) := by
  obtain ⟨i0, hi, hz0, hz1, hz2⟩ := info_parts Try_intinfo
  have hmk : ∀ w : World, (Instr.makeSlice 41 (.int .i64 3) (.int .i64 3)).run Try.prog w = .ok (.slice (some ⟨w.heap.size, 0, none⟩) 3 3) (w.alloc (.cells #[.int .i64 0, .int .i64 0, .int .i64 0] 3)) := by
    intro w
    have h := run_make (P := Try.prog) w 41 3 i0 (.int .i64 0) Try.underlying41 hi hz0 .i64 .i64 3 3 (by omega) (Int.le_refl _) (by rw [hz2]; omega) (by omega)
    rw [hz1] at h
    have e : madeCells (Value.int .i64 0).cells (Int.toNat 3 * 1) = #[.int .i64 0, .int .i64 0, .int .i64 0] := by kernel_rfl
    rw [e] at h
    exact h
  have hR := h.lt
  have hown0 : IOwn (w.alloc (.cells #[.int .i64 0, .int .i64 0, .int .i64 0] 3)) w.heap.size (.slice (some ⟨w.heap.size, 0, none⟩) 3 3) [0, 0, 0] := World.ownsRow_lit w #[.int .i64 0, .int .i64 0, .int .i64 0] 3 (Nat.le_refl _) (by unfold maxLen; omega) rfl
  have G0 : GamRel w R P (.slice (some ⟨w.heap.size, 0, none⟩) 3 3) [0, 0, 0] (w.alloc (.cells #[.int .i64 0, .int .i64 0, .int .i64 0] 3)) :=
    ⟨h.keep (by simp) (fun b hb => Below.heap_alloc w _ b hb), hown0, World.grownBy_alloc _ _ _, hR⟩
  have G1 := Lib.hid (G0.alloc (.cells #[.int .i64 1, .int .i64 2, .int .i64 6] 3))
  have KB := Lib.hid (blk_alloc (w.alloc (.cells #[.int .i64 0, .int .i64 0, .int .i64 0] 3)) #[.int .i64 1, .int .i64 2, .int .i64 6] 3)
  rw [World.size_alloc] at KB
  have HNE : Hid (w.heap.size + 1 ≠ R) := Lib.hid (by omega)
  clear G0 h hown0 hi hz0 hz1 hz2
  go_enter Try.func103, Try.ntmps103
  go_wp2_with fail
  refine (pick_any _ R P _ (by omega) G1.out.1).mono ?_
  rintro e w4 ⟨v1, rfl, ⟨p1, p2, -⟩, k1⟩
  have p2 := p2 (by decide)
  have G4 := Lib.hid (G1.out.picked k1)
  have hs0 : w4.cell? ⟨w.heap.size + 1, 0, none⟩ = some (.int .i64 1) := (KB.out.picked k1 HNE.out).cell 0
  have hs1 : w4.cell? ⟨w.heap.size + 1, 1, none⟩ = some (.int .i64 2) := (KB.out.picked k1 HNE.out).cell 1
  have hs2 : w4.cell? ⟨w.heap.size + 1, 2, none⟩ = some (.int .i64 6) := (KB.out.picked k1 HNE.out).cell 2
  clear k1 G1 KB HNE
  obtain rfl | rfl | rfl : v1 = 0 ∨ v1 = 1 ∨ v1 = 2 := by omega
  · go_wp2_with fail
    clear hs0 hs1 hs2 p1 p2
    go_loopw [8, 10] (fun l c wr => ∃ (k Q : Nat) (L : Int) (xs : List Int), c = .int .i64 (k : Int) ∧ k ≤ 2 ∧ Q ≤ P + 1 + k ∧ l = .int .i64 L ∧ 0 ≤ L ∧ L ≤ 36 ∧ Hid (xs.length = 3) ∧ Hid (Bnd 36 xs) ∧ Hid (GamRel w R Q (.slice (some ⟨w.heap.size, 0, none⟩) 3 3) xs wr)) (fun _ c _ => 3 - (intOf c).toNat)
    case atStart => exact ⟨0, P + 1, 36, _, rfl, by omega, by omega, rfl, by omega, by omega, Lib.hid rfl, Lib.hid (by intro x hx; simp at hx; omega), G4⟩
    case round =>
      obtain ⟨k, Q, L, xs, rfl, hk, hQ, rfl, hL0, hL1, HL, HA, HR⟩ := hrel
      clear G4
      by_cases hlt : k < 2
      · have hlt' : (k : Int) < 2 := by omega
        go_wp2_with fail
        refine (pick_any _ R Q _ (by omega) HR.out.1).mono ?_
        rintro e w5 ⟨v2, rfl, ⟨p3, p4, -⟩, k1⟩
        have p4 := p4 (by omega)
        obtain ⟨x0, hx0⟩ : ∃ x, xs[k]? = some x := ⟨_, List.getElem?_eq_getElem (by have := HL.out; omega)⟩
        have H5 := Lib.hid (HR.out.picked k1)
        have hc5 := H5.out.cell hx0
        have hf5 := H5.out.frozen k
        have H6 := Lib.hid (H5.out.store (k := k) (x := v2) HL.out)
        have HA6 := Lib.hid (HA.out.set_ k (x := v2) (by omega))
        clear k1 HR hx0
        go_wp2_with fail
        go_roundw
        case rel => exact ⟨k + 1, Q + 1, _, xs.set k (v2), by go_num, by omega, by omega, rfl, by omega, by omega, Lib.hid (by rw [List.length_set]; exact HL.out), HA6, by simpa using H6⟩
        case measure => simp [intOf]; omega
      · obtain rfl : k = 2 := by omega
        obtain ⟨x0, hx0⟩ : ∃ x, xs[2]? = some x := ⟨_, List.getElem?_eq_getElem (by have := HL.out; omega)⟩
        have hc5 := HR.out.cell hx0
        have hf5 := HR.out.frozen 2
        have H6 := Lib.hid (HR.out.store (k := 2) (x := L) HL.out)
        have HA6 := Lib.hid (HA.out.set_ 2 (x := L) ⟨hL0, hL1⟩)
        have HL6 : Hid ((xs.set 2 L).length = 3) := Lib.hid (by rw [List.length_set]; exact HL.out)
        clear hx0 HL HA HR
        generalize xs.set 2 L = ys at H6 HA6 HL6
        go_wp2_with fail
        generalize wr.setCell ⟨w.heap.size, 2, none⟩ (.int .i64 L) = w6 at H6 ⊢
        clear hc5 hf5
        refine (odd_any _ R Q _ m1 (by omega) (by omega) H6.out.1).mono ?_
        rintro e w7 ⟨b, rfl, k1⟩
        have H7 := Lib.hid (H6.out.picked k1)
        clear k1 H6
        cases b
        · go_wp2_with fail
          go_ret
          exact ⟨_, _, rfl, H7.out.mono (by omega), by rw [HL6.out]; omega, HA6.out.mono (by decide)⟩
        · go_wp2_with fail
          refine (pick_any _ R (Q + 1) _ (by omega) H7.out.1).mono ?_
          rintro e w8 ⟨v3, rfl, ⟨p5, p6, -⟩, k1⟩
          have p6 := p6 (by decide)
          have H8 := Lib.hid (H7.out.picked k1)
          clear k1 H7
          obtain rfl | rfl : v3 = 0 ∨ v3 = 1 := by omega
          · obtain ⟨y0, hy0⟩ : ∃ x, ys[0]? = some x := ⟨_, List.getElem?_eq_getElem (by have := HL6.out; omega)⟩
            obtain ⟨y1, y2⟩ := HA6.out.at_ hy0
            have hc8 := H8.out.cell hy0
            have hf8 := H8.out.frozen 0
            have H9 := Lib.hid (H8.out.store (k := 0) (x := y0 + 1) HL6.out)
            have HA9 := Lib.hid ((HA6.out.mono (C := 37) (by decide)).set_ 0 (x := y0 + 1) (by omega))
            clear hy0
            go_wp2_with fail
            go_ret
            exact ⟨_, _, rfl, H9.out.mono (by omega), by rw [List.length_set, HL6.out]; omega, HA9.out⟩
          · have H9 := Lib.hid H8.out.anew
            go_wp2_with fail
            go_ret
            exact ⟨_, _, rfl, H9.out.mono (by omega), by simp, fun x hx => by cases hx⟩
  · go_wp2_with fail
    clear hs0 hs1 hs2 p1 p2
    go_loopw [8, 10] (fun l c wr => ∃ (k Q : Nat) (L : Int) (xs : List Int), c = .int .i64 (k : Int) ∧ k ≤ 2 ∧ Q ≤ P + 1 + k ∧ l = .int .i64 L ∧ 0 ≤ L ∧ L ≤ 36 ∧ Hid (xs.length = 3) ∧ Hid (Bnd 36 xs) ∧ Hid (GamRel w R Q (.slice (some ⟨w.heap.size, 0, none⟩) 3 3) xs wr)) (fun _ c _ => 3 - (intOf c).toNat)
    case atStart => exact ⟨0, P + 1, 36, _, rfl, by omega, by omega, rfl, by omega, by omega, Lib.hid rfl, Lib.hid (by intro x hx; simp at hx; omega), G4⟩
    case round =>
      obtain ⟨k, Q, L, xs, rfl, hk, hQ, rfl, hL0, hL1, HL, HA, HR⟩ := hrel
      clear G4
      by_cases hlt : k < 2
      · have hlt' : (k : Int) < 2 := by omega
        go_wp2_with fail
        refine (pick_any _ R Q _ (by omega) HR.out.1).mono ?_
        rintro e w5 ⟨v2, rfl, ⟨p3, p4, -⟩, k1⟩
        have p4 := p4 (by omega)
        obtain ⟨x0, hx0⟩ : ∃ x, xs[k]? = some x := ⟨_, List.getElem?_eq_getElem (by have := HL.out; omega)⟩
        have H5 := Lib.hid (HR.out.picked k1)
        have hc5 := H5.out.cell hx0
        have hf5 := H5.out.frozen k
        have H6 := Lib.hid (H5.out.store (k := k) (x := v2 * 2) HL.out)
        have HA6 := Lib.hid (HA.out.set_ k (x := v2 * 2) (by omega))
        clear k1 HR hx0
        go_wp2_with fail
        go_roundw
        case rel => exact ⟨k + 1, Q + 1, _, xs.set k (v2 * 2), by go_num, by omega, by omega, rfl, by omega, by omega, Lib.hid (by rw [List.length_set]; exact HL.out), HA6, by simpa using H6⟩
        case measure => simp [intOf]; omega
      · obtain rfl : k = 2 := by omega
        obtain ⟨x0, hx0⟩ : ∃ x, xs[2]? = some x := ⟨_, List.getElem?_eq_getElem (by have := HL.out; omega)⟩
        have hc5 := HR.out.cell hx0
        have hf5 := HR.out.frozen 2
        have H6 := Lib.hid (HR.out.store (k := 2) (x := L) HL.out)
        have HA6 := Lib.hid (HA.out.set_ 2 (x := L) ⟨hL0, hL1⟩)
        have HL6 : Hid ((xs.set 2 L).length = 3) := Lib.hid (by rw [List.length_set]; exact HL.out)
        clear hx0 HL HA HR
        generalize xs.set 2 L = ys at H6 HA6 HL6
        go_wp2_with fail
        generalize wr.setCell ⟨w.heap.size, 2, none⟩ (.int .i64 L) = w6 at H6 ⊢
        clear hc5 hf5
        refine (odd_any _ R Q _ m1 (by omega) (by omega) H6.out.1).mono ?_
        rintro e w7 ⟨b, rfl, k1⟩
        have H7 := Lib.hid (H6.out.picked k1)
        clear k1 H6
        cases b
        · go_wp2_with fail
          go_ret
          exact ⟨_, _, rfl, H7.out.mono (by omega), by rw [HL6.out]; omega, HA6.out.mono (by decide)⟩
        · go_wp2_with fail
          refine (pick_any _ R (Q + 1) _ (by omega) H7.out.1).mono ?_
          rintro e w8 ⟨v3, rfl, ⟨p5, p6, -⟩, k1⟩
          have p6 := p6 (by decide)
          have H8 := Lib.hid (H7.out.picked k1)
          clear k1 H7
          obtain rfl | rfl : v3 = 0 ∨ v3 = 1 := by omega
          · obtain ⟨y0, hy0⟩ : ∃ x, ys[0]? = some x := ⟨_, List.getElem?_eq_getElem (by have := HL6.out; omega)⟩
            obtain ⟨y1, y2⟩ := HA6.out.at_ hy0
            have hc8 := H8.out.cell hy0
            have hf8 := H8.out.frozen 0
            have H9 := Lib.hid (H8.out.store (k := 0) (x := y0 + 1) HL6.out)
            have HA9 := Lib.hid ((HA6.out.mono (C := 37) (by decide)).set_ 0 (x := y0 + 1) (by omega))
            clear hy0
            go_wp2_with fail
            go_ret
            exact ⟨_, _, rfl, H9.out.mono (by omega), by rw [List.length_set, HL6.out]; omega, HA9.out⟩
          · have H9 := Lib.hid H8.out.anew
            go_wp2_with fail
            go_ret
            exact ⟨_, _, rfl, H9.out.mono (by omega), by simp, fun x hx => by cases hx⟩
  · go_wp2_with fail
    clear hs0 hs1 hs2 p1 p2
    go_loopw [8, 10] (fun l c wr => ∃ (k Q : Nat) (L : Int) (xs : List Int), c = .int .i64 (k : Int) ∧ k ≤ 2 ∧ Q ≤ P + 1 + k ∧ l = .int .i64 L ∧ 0 ≤ L ∧ L ≤ 36 ∧ Hid (xs.length = 3) ∧ Hid (Bnd 36 xs) ∧ Hid (GamRel w R Q (.slice (some ⟨w.heap.size, 0, none⟩) 3 3) xs wr)) (fun _ c _ => 3 - (intOf c).toNat)
    case atStart => exact ⟨0, P + 1, 36, _, rfl, by omega, by omega, rfl, by omega, by omega, Lib.hid rfl, Lib.hid (by intro x hx; simp at hx; omega), G4⟩
    case round =>
      obtain ⟨k, Q, L, xs, rfl, hk, hQ, rfl, hL0, hL1, HL, HA, HR⟩ := hrel
      clear G4
      by_cases hlt : k < 2
      · have hlt' : (k : Int) < 2 := by omega
        go_wp2_with fail
        refine (pick_any _ R Q _ (by omega) HR.out.1).mono ?_
        rintro e w5 ⟨v2, rfl, ⟨p3, p4, -⟩, k1⟩
        have p4 := p4 (by omega)
        obtain ⟨x0, hx0⟩ : ∃ x, xs[k]? = some x := ⟨_, List.getElem?_eq_getElem (by have := HL.out; omega)⟩
        have H5 := Lib.hid (HR.out.picked k1)
        have hc5 := H5.out.cell hx0
        have hf5 := H5.out.frozen k
        have H6 := Lib.hid (H5.out.store (k := k) (x := v2 * 6) HL.out)
        have HA6 := Lib.hid (HA.out.set_ k (x := v2 * 6) (by omega))
        clear k1 HR hx0
        go_wp2_with fail
        go_roundw
        case rel => exact ⟨k + 1, Q + 1, _, xs.set k (v2 * 6), by go_num, by omega, by omega, rfl, by omega, by omega, Lib.hid (by rw [List.length_set]; exact HL.out), HA6, by simpa using H6⟩
        case measure => simp [intOf]; omega
      · obtain rfl : k = 2 := by omega
        obtain ⟨x0, hx0⟩ : ∃ x, xs[2]? = some x := ⟨_, List.getElem?_eq_getElem (by have := HL.out; omega)⟩
        have hc5 := HR.out.cell hx0
        have hf5 := HR.out.frozen 2
        have H6 := Lib.hid (HR.out.store (k := 2) (x := L) HL.out)
        have HA6 := Lib.hid (HA.out.set_ 2 (x := L) ⟨hL0, hL1⟩)
        have HL6 : Hid ((xs.set 2 L).length = 3) := Lib.hid (by rw [List.length_set]; exact HL.out)
        clear hx0 HL HA HR
        generalize xs.set 2 L = ys at H6 HA6 HL6
        go_wp2_with fail
        generalize wr.setCell ⟨w.heap.size, 2, none⟩ (.int .i64 L) = w6 at H6 ⊢
        clear hc5 hf5
        refine (odd_any _ R Q _ m1 (by omega) (by omega) H6.out.1).mono ?_
        rintro e w7 ⟨b, rfl, k1⟩
        have H7 := Lib.hid (H6.out.picked k1)
        clear k1 H6
        cases b
        · go_wp2_with fail
          go_ret
          exact ⟨_, _, rfl, H7.out.mono (by omega), by rw [HL6.out]; omega, HA6.out.mono (by decide)⟩
        · go_wp2_with fail
          refine (pick_any _ R (Q + 1) _ (by omega) H7.out.1).mono ?_
          rintro e w8 ⟨v3, rfl, ⟨p5, p6, -⟩, k1⟩
          have p6 := p6 (by decide)
          have H8 := Lib.hid (H7.out.picked k1)
          clear k1 H7
          obtain rfl | rfl : v3 = 0 ∨ v3 = 1 := by omega
          · obtain ⟨y0, hy0⟩ : ∃ x, ys[0]? = some x := ⟨_, List.getElem?_eq_getElem (by have := HL6.out; omega)⟩
            obtain ⟨y1, y2⟩ := HA6.out.at_ hy0
            have hc8 := H8.out.cell hy0
            have hf8 := H8.out.frozen 0
            have H9 := Lib.hid (H8.out.store (k := 0) (x := y0 + 1) HL6.out)
            have HA9 := Lib.hid ((HA6.out.mono (C := 37) (by decide)).set_ 0 (x := y0 + 1) (by omega))
            clear hy0
            go_wp2_with fail
            go_ret
            exact ⟨_, _, rfl, H9.out.mono (by omega), by rw [List.length_set, HL6.out]; omega, HA9.out⟩
          · have H9 := Lib.hid H8.out.anew
            go_wp2_with fail
            go_ret
            exact ⟨_, _, rfl, H9.out.mono (by omega), by simp, fun x hx => by cases hx⟩

set_option maxHeartbeats 8000000 in
theorem l20Measure_4 (w : World) (R P : Nat) (m : Int) (hP : P ≤ 100000) (h : Rd w R P) (m1 : 1 ≤ m) (m2 : m ≤ 1000) :
    Calls Try.prog 103 #[.pointer (some ⟨R, 0, none⟩), .int .i64 4, .int .i64 m] w (MeaR w R (P + 8)) := by
  obtain ⟨i0, hi, hz0, hz1, hz2⟩ := info_parts Try_intinfo
  have hmk : ∀ w : World, (Instr.makeSlice 41 (.int .i64 4) (.int .i64 4)).run Try.prog w = .ok (.slice (some ⟨w.heap.size, 0, none⟩) 4 4) (w.alloc (.cells #[.int .i64 0, .int .i64 0, .int .i64 0, .int .i64 0] 3)) := by
    intro w
    have h := run_make (P := Try.prog) w 41 3 i0 (.int .i64 0) Try.underlying41 hi hz0 .i64 .i64 4 4 (by omega) (Int.le_refl _) (by rw [hz2]; omega) (by omega)
    rw [hz1] at h
    have e : madeCells (Value.int .i64 0).cells (Int.toNat 4 * 1) = #[.int .i64 0, .int .i64 0, .int .i64 0, .int .i64 0] := by kernel_rfl
    rw [e] at h
    exact h
  have hR := h.lt
  have hown0 : IOwn (w.alloc (.cells #[.int .i64 0, .int .i64 0, .int .i64 0, .int .i64 0] 3)) w.heap.size (.slice (some ⟨w.heap.size, 0, none⟩) 4 4) [0, 0, 0, 0] := World.ownsRow_lit w #[.int .i64 0, .int .i64 0, .int .i64 0, .int .i64 0] 4 (Nat.le_refl _) (by unfold maxLen; omega) rfl
  have G0 : GamRel w R P (.slice (some ⟨w.heap.size, 0, none⟩) 4 4) [0, 0, 0, 0] (w.alloc (.cells #[.int .i64 0, .int .i64 0, .int .i64 0, .int .i64 0] 3)) :=
    ⟨h.keep (by simp) (fun b hb => Below.heap_alloc w _ b hb), hown0, World.grownBy_alloc _ _ _, hR⟩
  have G1 := Lib.hid (G0.alloc (.cells #[.int .i64 1, .int .i64 2, .int .i64 6] 3))
  have KB := Lib.hid (blk_alloc (w.alloc (.cells #[.int .i64 0, .int .i64 0, .int .i64 0, .int .i64 0] 3)) #[.int .i64 1, .int .i64 2, .int .i64 6] 3)
  rw [World.size_alloc] at KB
  have HNE : Hid (w.heap.size + 1 ≠ R) := Lib.hid (by omega)
  clear G0 h hown0 hi hz0 hz1 hz2
  go_enter Try.func103, Try.ntmps103
  go_wp2_with fail
  refine (pick_any _ R P _ (by omega) G1.out.1).mono ?_
  rintro e w4 ⟨v1, rfl, ⟨p1, p2, -⟩, k1⟩
  have p2 := p2 (by decide)
  have G4 := Lib.hid (G1.out.picked k1)
  have hs0 : w4.cell? ⟨w.heap.size + 1, 0, none⟩ = some (.int .i64 1) := (KB.out.picked k1 HNE.out).cell 0
  have hs1 : w4.cell? ⟨w.heap.size + 1, 1, none⟩ = some (.int .i64 2) := (KB.out.picked k1 HNE.out).cell 1
  have hs2 : w4.cell? ⟨w.heap.size + 1, 2, none⟩ = some (.int .i64 6) := (KB.out.picked k1 HNE.out).cell 2
  clear k1 G1 KB HNE
  obtain rfl | rfl | rfl : v1 = 0 ∨ v1 = 1 ∨ v1 = 2 := by omega
  · go_wp2_with fail
    clear hs0 hs1 hs2 p1 p2
    go_loopw [8, 10] (fun l c wr => ∃ (k Q : Nat) (L : Int) (xs : List Int), c = .int .i64 (k : Int) ∧ k ≤ 3 ∧ Q ≤ P + 1 + k ∧ l = .int .i64 L ∧ 0 ≤ L ∧ L ≤ 36 ∧ Hid (xs.length = 4) ∧ Hid (Bnd 36 xs) ∧ Hid (GamRel w R Q (.slice (some ⟨w.heap.size, 0, none⟩) 4 4) xs wr)) (fun _ c _ => 4 - (intOf c).toNat)
    case atStart => exact ⟨0, P + 1, 36, _, rfl, by omega, by omega, rfl, by omega, by omega, Lib.hid rfl, Lib.hid (by intro x hx; simp at hx; omega), G4⟩
    case round =>
      obtain ⟨k, Q, L, xs, rfl, hk, hQ, rfl, hL0, hL1, HL, HA, HR⟩ := hrel
      clear G4
      by_cases hlt : k < 3
      · have hlt' : (k : Int) < 3 := by omega
        go_wp2_with fail
        refine (pick_any _ R Q _ (by omega) HR.out.1).mono ?_
        rintro e w5 ⟨v2, rfl, ⟨p3, p4, -⟩, k1⟩
        have p4 := p4 (by omega)
        obtain ⟨x0, hx0⟩ : ∃ x, xs[k]? = some x := ⟨_, List.getElem?_eq_getElem (by have := HL.out; omega)⟩
        have H5 := Lib.hid (HR.out.picked k1)
        have hc5 := H5.out.cell hx0
        have hf5 := H5.out.frozen k
        have H6 := Lib.hid (H5.out.store (k := k) (x := v2) HL.out)
        have HA6 := Lib.hid (HA.out.set_ k (x := v2) (by omega))
        clear k1 HR hx0
        go_wp2_with fail
        go_roundw
        case rel => exact ⟨k + 1, Q + 1, _, xs.set k (v2), by go_num, by omega, by omega, rfl, by omega, by omega, Lib.hid (by rw [List.length_set]; exact HL.out), HA6, by simpa using H6⟩
        case measure => simp [intOf]; omega
      · obtain rfl : k = 3 := by omega
        obtain ⟨x0, hx0⟩ : ∃ x, xs[3]? = some x := ⟨_, List.getElem?_eq_getElem (by have := HL.out; omega)⟩
        have hc5 := HR.out.cell hx0
        have hf5 := HR.out.frozen 3
        have H6 := Lib.hid (HR.out.store (k := 3) (x := L) HL.out)
        have HA6 := Lib.hid (HA.out.set_ 3 (x := L) ⟨hL0, hL1⟩)
        have HL6 : Hid ((xs.set 3 L).length = 4) := Lib.hid (by rw [List.length_set]; exact HL.out)
        clear hx0 HL HA HR
        generalize xs.set 3 L = ys at H6 HA6 HL6
        go_wp2_with fail
        generalize wr.setCell ⟨w.heap.size, 3, none⟩ (.int .i64 L) = w6 at H6 ⊢
        clear hc5 hf5
        refine (odd_any _ R Q _ m1 (by omega) (by omega) H6.out.1).mono ?_
        rintro e w7 ⟨b, rfl, k1⟩
        have H7 := Lib.hid (H6.out.picked k1)
        clear k1 H6
        cases b
        · go_wp2_with fail
          go_ret
          exact ⟨_, _, rfl, H7.out.mono (by omega), by rw [HL6.out]; omega, HA6.out.mono (by decide)⟩
        · go_wp2_with fail
          refine (pick_any _ R (Q + 1) _ (by omega) H7.out.1).mono ?_
          rintro e w8 ⟨v3, rfl, ⟨p5, p6, -⟩, k1⟩
          have p6 := p6 (by decide)
          have H8 := Lib.hid (H7.out.picked k1)
          clear k1 H7
          obtain rfl | rfl : v3 = 0 ∨ v3 = 1 := by omega
          · obtain ⟨y0, hy0⟩ : ∃ x, ys[0]? = some x := ⟨_, List.getElem?_eq_getElem (by have := HL6.out; omega)⟩
            obtain ⟨y1, y2⟩ := HA6.out.at_ hy0
            have hc8 := H8.out.cell hy0
            have hf8 := H8.out.frozen 0
            have H9 := Lib.hid (H8.out.store (k := 0) (x := y0 + 1) HL6.out)
            have HA9 := Lib.hid ((HA6.out.mono (C := 37) (by decide)).set_ 0 (x := y0 + 1) (by omega))
            clear hy0
            go_wp2_with fail
            go_ret
            exact ⟨_, _, rfl, H9.out.mono (by omega), by rw [List.length_set, HL6.out]; omega, HA9.out⟩
          · have H9 := Lib.hid H8.out.anew
            go_wp2_with fail
            go_ret
            exact ⟨_, _, rfl, H9.out.mono (by omega), by simp, fun x hx => by cases hx⟩
  · go_wp2_with fail
    clear hs0 hs1 hs2 p1 p2
    go_loopw [8, 10] (fun l c wr => ∃ (k Q : Nat) (L : Int) (xs : List Int), c = .int .i64 (k : Int) ∧ k ≤ 3 ∧ Q ≤ P + 1 + k ∧ l = .int .i64 L ∧ 0 ≤ L ∧ L ≤ 36 ∧ Hid (xs.length = 4) ∧ Hid (Bnd 36 xs) ∧ Hid (GamRel w R Q (.slice (some ⟨w.heap.size, 0, none⟩) 4 4) xs wr)) (fun _ c _ => 4 - (intOf c).toNat)
    case atStart => exact ⟨0, P + 1, 36, _, rfl, by omega, by omega, rfl, by omega, by omega, Lib.hid rfl, Lib.hid (by intro x hx; simp at hx; omega), G4⟩
    case round =>
      obtain ⟨k, Q, L, xs, rfl, hk, hQ, rfl, hL0, hL1, HL, HA, HR⟩ := hrel
      clear G4
      by_cases hlt : k < 3
      · have hlt' : (k : Int) < 3 := by omega
        go_wp2_with fail
        refine (pick_any _ R Q _ (by omega) HR.out.1).mono ?_
        rintro e w5 ⟨v2, rfl, ⟨p3, p4, -⟩, k1⟩
        have p4 := p4 (by omega)
        obtain ⟨x0, hx0⟩ : ∃ x, xs[k]? = some x := ⟨_, List.getElem?_eq_getElem (by have := HL.out; omega)⟩
        have H5 := Lib.hid (HR.out.picked k1)
        have hc5 := H5.out.cell hx0
        have hf5 := H5.out.frozen k
        have H6 := Lib.hid (H5.out.store (k := k) (x := v2 * 2) HL.out)
        have HA6 := Lib.hid (HA.out.set_ k (x := v2 * 2) (by omega))
        clear k1 HR hx0
        go_wp2_with fail
        go_roundw
        case rel => exact ⟨k + 1, Q + 1, _, xs.set k (v2 * 2), by go_num, by omega, by omega, rfl, by omega, by omega, Lib.hid (by rw [List.length_set]; exact HL.out), HA6, by simpa using H6⟩
        case measure => simp [intOf]; omega
      · obtain rfl : k = 3 := by omega
        obtain ⟨x0, hx0⟩ : ∃ x, xs[3]? = some x := ⟨_, List.getElem?_eq_getElem (by have := HL.out; omega)⟩
        have hc5 := HR.out.cell hx0
        have hf5 := HR.out.frozen 3
        have H6 := Lib.hid (HR.out.store (k := 3) (x := L) HL.out)
        have HA6 := Lib.hid (HA.out.set_ 3 (x := L) ⟨hL0, hL1⟩)
        have HL6 : Hid ((xs.set 3 L).length = 4) := Lib.hid (by rw [List.length_set]; exact HL.out)
        clear hx0 HL HA HR
        generalize xs.set 3 L = ys at H6 HA6 HL6
        go_wp2_with fail
        generalize wr.setCell ⟨w.heap.size, 3, none⟩ (.int .i64 L) = w6 at H6 ⊢
        clear hc5 hf5
        refine (odd_any _ R Q _ m1 (by omega) (by omega) H6.out.1).mono ?_
        rintro e w7 ⟨b, rfl, k1⟩
        have H7 := Lib.hid (H6.out.picked k1)
        clear k1 H6
        cases b
        · go_wp2_with fail
          go_ret
          exact ⟨_, _, rfl, H7.out.mono (by omega), by rw [HL6.out]; omega, HA6.out.mono (by decide)⟩
        · go_wp2_with fail
          refine (pick_any _ R (Q + 1) _ (by omega) H7.out.1).mono ?_
          rintro e w8 ⟨v3, rfl, ⟨p5, p6, -⟩, k1⟩
          have p6 := p6 (by decide)
          have H8 := Lib.hid (H7.out.picked k1)
          clear k1 H7
          obtain rfl | rfl : v3 = 0 ∨ v3 = 1 := by omega
          · obtain ⟨y0, hy0⟩ : ∃ x, ys[0]? = some x := ⟨_, List.getElem?_eq_getElem (by have := HL6.out; omega)⟩
            obtain ⟨y1, y2⟩ := HA6.out.at_ hy0
            have hc8 := H8.out.cell hy0
            have hf8 := H8.out.frozen 0
            have H9 := Lib.hid (H8.out.store (k := 0) (x := y0 + 1) HL6.out)
            have HA9 := Lib.hid ((HA6.out.mono (C := 37) (by decide)).set_ 0 (x := y0 + 1) (by omega))
            clear hy0
            go_wp2_with fail
            go_ret
            exact ⟨_, _, rfl, H9.out.mono (by omega), by rw [List.length_set, HL6.out]; omega, HA9.out⟩
          · have H9 := Lib.hid H8.out.anew
            go_wp2_with fail
            go_ret
            exact ⟨_, _, rfl, H9.out.mono (by omega), by simp, fun x hx => by cases hx⟩
  · go_wp2_with fail
    clear hs0 hs1 hs2 p1 p2
    go_loopw [8, 10] (fun l c wr => ∃ (k Q : Nat) (L : Int) (xs : List Int), c = .int .i64 (k : Int) ∧ k ≤ 3 ∧ Q ≤ P + 1 + k ∧ l = .int .i64 L ∧ 0 ≤ L ∧ L ≤ 36 ∧ Hid (xs.length = 4) ∧ Hid (Bnd 36 xs) ∧ Hid (GamRel w R Q (.slice (some ⟨w.heap.size, 0, none⟩) 4 4) xs wr)) (fun _ c _ => 4 - (intOf c).toNat)
    case atStart => exact ⟨0, P + 1, 36, _, rfl, by omega, by omega, rfl, by omega, by omega, Lib.hid rfl, Lib.hid (by intro x hx; simp at hx; omega), G4⟩
    case round =>
      obtain ⟨k, Q, L, xs, rfl, hk, hQ, rfl, hL0, hL1, HL, HA, HR⟩ := hrel
      clear G4
      by_cases hlt : k < 3
      · have hlt' : (k : Int) < 3 := by omega
        go_wp2_with fail
        refine (pick_any _ R Q _ (by omega) HR.out.1).mono ?_
        rintro e w5 ⟨v2, rfl, ⟨p3, p4, -⟩, k1⟩
        have p4 := p4 (by omega)
        obtain ⟨x0, hx0⟩ : ∃ x, xs[k]? = some x := ⟨_, List.getElem?_eq_getElem (by have := HL.out; omega)⟩
        have H5 := Lib.hid (HR.out.picked k1)
        have hc5 := H5.out.cell hx0
        have hf5 := H5.out.frozen k
        have H6 := Lib.hid (H5.out.store (k := k) (x := v2 * 6) HL.out)
        have HA6 := Lib.hid (HA.out.set_ k (x := v2 * 6) (by omega))
        clear k1 HR hx0
        go_wp2_with fail
        go_roundw
        case rel => exact ⟨k + 1, Q + 1, _, xs.set k (v2 * 6), by go_num, by omega, by omega, rfl, by omega, by omega, Lib.hid (by rw [List.length_set]; exact HL.out), HA6, by simpa using H6⟩
        case measure => simp [intOf]; omega
      · obtain rfl : k = 3 := by omega
        obtain ⟨x0, hx0⟩ : ∃ x, xs[3]? = some x := ⟨_, List.getElem?_eq_getElem (by have := HL.out; omega)⟩
        have hc5 := HR.out.cell hx0
        have hf5 := HR.out.frozen 3
        have H6 := Lib.hid (HR.out.store (k := 3) (x := L) HL.out)
        have HA6 := Lib.hid (HA.out.set_ 3 (x := L) ⟨hL0, hL1⟩)
        have HL6 : Hid ((xs.set 3 L).length = 4) := Lib.hid (by rw [List.length_set]; exact HL.out)
        clear hx0 HL HA HR
        generalize xs.set 3 L = ys at H6 HA6 HL6
        go_wp2_with fail
        generalize wr.setCell ⟨w.heap.size, 3, none⟩ (.int .i64 L) = w6 at H6 ⊢
        clear hc5 hf5
        refine (odd_any _ R Q _ m1 (by omega) (by omega) H6.out.1).mono ?_
        rintro e w7 ⟨b, rfl, k1⟩
        have H7 := Lib.hid (H6.out.picked k1)
        clear k1 H6
        cases b
        · go_wp2_with fail
          go_ret
          exact ⟨_, _, rfl, H7.out.mono (by omega), by rw [HL6.out]; omega, HA6.out.mono (by decide)⟩
        · go_wp2_with fail
          refine (pick_any _ R (Q + 1) _ (by omega) H7.out.1).mono ?_
          rintro e w8 ⟨v3, rfl, ⟨p5, p6, -⟩, k1⟩
          have p6 := p6 (by decide)
          have H8 := Lib.hid (H7.out.picked k1)
          clear k1 H7
          obtain rfl | rfl : v3 = 0 ∨ v3 = 1 := by omega
          · obtain ⟨y0, hy0⟩ : ∃ x, ys[0]? = some x := ⟨_, List.getElem?_eq_getElem (by have := HL6.out; omega)⟩
            obtain ⟨y1, y2⟩ := HA6.out.at_ hy0
            have hc8 := H8.out.cell hy0
            have hf8 := H8.out.frozen 0
            have H9 := Lib.hid (H8.out.store (k := 0) (x := y0 + 1) HL6.out)
            have HA9 := Lib.hid ((HA6.out.mono (C := 37) (by decide)).set_ 0 (x := y0 + 1) (by omega))
            clear hy0
            go_wp2_with fail
            go_ret
            exact ⟨_, _, rfl, H9.out.mono (by omega), by rw [List.length_set, HL6.out]; omega, HA9.out⟩
          · have H9 := Lib.hid H8.out.anew
            go_wp2_with fail
            go_ret
            exact ⟨_, _, rfl, H9.out.mono (by omega), by simp, fun x hx => by cases hx⟩

theorem l20Measure_any (w : World) (R P : Nat) (n m : Int) (hP : P ≤ 100000) (h : Rd w R P) (h1 : 1 ≤ n) (h2 : n ≤ 4) (m1 : 1 ≤ m) (m2 : m ≤ 1000) :
    Calls Try.prog 103 #[.pointer (some ⟨R, 0, none⟩), .int .i64 n, .int .i64 m] w (MeaR w R (P + 8)) := by
  obtain rfl | rfl | rfl | rfl : n = 1 ∨ n = 2 ∨ n = 3 ∨ n = 4 := by omega
  · exact l20Measure_1 w R P m hP h m1 m2
  · exact l20Measure_2 w R P m hP h m1 m2
  · exact l20Measure_3 w R P m hP h m1 m2
  · exact l20Measure_4 w R P m hP h m1 m2

end Go.Proofs.Yteljcicdibbhdaa
