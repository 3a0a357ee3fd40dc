/- The walk of the law of WeightsOk. Conditions: rows of bytes that came in. (gen_fh.py) -/
import Derived.Test.YtbjmhbkpeglpkaaHp
import Derived.Test.YtbjmhbkpeglpkaaHf
import Derived.Test.YtbjmhbkpeglpkaaMe
namespace Go.Proofs.Ytbjmhbkpeglpkaa
open Go.RowKit
set_option linter.unusedVariables false

theorem lit1_12 (w : World) : IRd (w.alloc (.cells #[.int .i64 1] 3)) (.slice (some ⟨w.heap.size, 0, none⟩) 1 1) [1] := IOwn.rd (base := w.heap.size) (World.ownsRow_lit w #[.int .i64 1] 1 (Nat.le_refl _) (by unfold maxLen; omega) rfl)

set_option maxRecDepth 100000 in
set_option maxHeartbeats 8000000 in
theorem FnWeightsOk_walk (a0 : Option Addr) (len0 cap0 : Nat) (z0 : List Int) (w : World) (w0 : IsRowC .u8 w a0 len0 cap0 z0) :
    Calls Try.prog 3 #[.slice a0 len0 cap0] w fun e w' => e = .returned (.bool true) ∧ Below w.heap.size w w' := by
  by_cases hlen : 1048576 < len0
  · clear w0
    go_enter Try.func3, Try.ntmps3
    go_wp2
    go_ret
    exact ⟨rfl, Below.refl _ _⟩
  · have hlen' : decide (1048576 < len0) = false := by simpa using hlen
    go_enter Try.func3, Try.ntmps3
    go_wp2_with fail
    refine (drawWeightsOk_any _ _ _ _ _ w0).mono ?_
    rintro e w1 ⟨v, xs, rfl, ov, hl4, -, B1⟩
    have HB1 := Lib.hid B1
    have ord := ov.rd
    obtain ⟨A, c, rfl, -, -, -⟩ := id ord
    obtain ⟨t, ht⟩ : ∃ t, wgtB xs = t := ⟨_, rfl⟩
    have HB := Lib.hid ht
    have hw1 : IRd w1 (Value.int .i64 1) [] ∨ True := .inr trivial
    clear ov B1 w0 ht hw1
    obtain ⟨i0, hi, hz0, hz1, hz2⟩ := info_parts Try_intinfo
    have HW1 : Hid (wgtB [1] = true) := Lib.hid (by decide)
    obtain hN | hN | hN | hN | hN : xs.length = 0 ∨ xs.length = 1 ∨ xs.length = 2 ∨ xs.length = 3 ∨ xs.length = 4 := by omega
    all_goals skip
    · have hmk : ∀ w : World, (Instr.makeSlice 23 (.int .i64 0) (.int .i64 0)).run Try.prog w = .ok (.slice (some ⟨w.heap.size, 0, none⟩) 0 0) (w.alloc (.cells #[] 3)) := by
        intro w
        have h := run_make (P := Try.prog) w 23 3 i0 (.int .i64 0) Try.underlying23 hi hz0 .i64 .i64 0 0 (by omega) (Int.le_refl _) (by rw [hz2]; omega) (by omega)
        rw [hz1] at h
        have e : madeCells (Value.int .i64 0).cells (Int.toNat 0 * 1) = #[] := by kernel_rfl
        rw [e] at h
        exact h
      have HZ0 : Hid (∀ w : World, IOwn (w.alloc (.cells #[] 3)) w.heap.size (.slice (some ⟨w.heap.size, 0, none⟩) 0 0) ([] : List Int)) := Lib.hid (fun w => World.ownsRow_lit w #[] 0 (Nat.le_refl _) (by unfold maxLen; omega) rfl)
      have HZF : Hid (wgtB ([] : List Int) = false) := Lib.hid (by decide)
      have HMT : Hid (wgtB ([] : List Int) = false) := Lib.hid (by decide)
      have HMM : Hid (meaB ([] : List Int) = false) := Lib.hid (by decide)
      have HV : Hid (∀ wr, Below w1.heap.size w1 wr → IRd wr (.slice A 0 c) xs) := Lib.hid (fun wr hb => by have := ord.keep (SameAt.of_below hb); rwa [hN] at this)
      rw [hN]
      clear hi hz0 hz1 hz2 ord hN
      have C1 := Lib.hid (Below.refl w1.heap.size w1)
      go_wp2_with fail
      refine (implWeightsOk_any w1 _ xs (HV.out w1 C1.out)).mono ?_
      rintro e w2 ⟨rfl, b2⟩
      rw [HB.out]
      have C2 := Lib.hid (below_step C1.out b2 C1.out.size)
      clear b2
      go_wp2_with fail
      refine (specWeightsOk_any w2 _ xs (HV.out w2 C2.out)).mono ?_
      rintro e w' ⟨rfl, rfl⟩
      rw [HB.out]
      have HM : Hid (IOwn (w2.alloc (.cells #[] 3)) w2.heap.size (.slice (some ⟨w2.heap.size, 0, none⟩) 0 0) ([] : List Int)) := Lib.hid (World.ownsRow_lit w2 #[] 0 (Nat.le_refl _) (by unfold maxLen; omega) rfl)
      have C3 : Hid (Below w1.heap.size w1 (w2.alloc (.cells #[] 3))) := Lib.hid (C2.out.alloc C2.out.size _)
      have hz3 : Hid ((w2.alloc (.cells #[] 3)).heap.size = w2.heap.size + 1) := Lib.hid (World.size_alloc _ _)
      go_wp2_with fail
      generalize (w2.alloc (.cells #[] 3)) = w3 at HM C3 hz3 ⊢
      have hl1 := lit1_12 w3
      rw [hz3.out] at hl1
      have HL1 := Lib.hid hl1
      clear hl1
      refine (implWeightsOk_any _ _ [1] HL1.out).mono ?_
      rintro e w4 ⟨rfl, b4⟩
      rw [HW1.out]
      have D4 := Lib.hid (below_step ((Below.refl w3.heap.size w3).alloc (Nat.le_refl _) _) b4 (by simp))
      have C4 := Lib.hid (below_step C3.out D4.out C3.out.size)
      clear b4 HL1
      go_wp2_with fail
      refine (implWeightsOk_any _ _ ([] : List Int) (HZ0.out w4).rd).mono ?_
      rintro e w5 ⟨rfl, b5⟩
      rw [HZF.out]
      have E5 := Lib.hid (below_step ((Below.refl w4.heap.size w4).alloc (Nat.le_refl _) _) b5 (by simp))
      have D5 := Lib.hid (below_step D4.out E5.out D4.out.size)
      have C5 := Lib.hid (below_step C4.out E5.out C4.out.size)
      have HM5 := Lib.hid (HM.out.keep (SameAt.of_below D5.out)).rd
      clear b5 E5
      go_wp2_with fail
      refine (implMeasureOk_any w5 _ _ HM5.out).mono ?_
      rintro e w' ⟨rfl, rfl⟩
      rw [HMM.out]
      go_wp2_with fail
      go_ret
      exact ⟨rfl, below_step HB1.out C5.out HB1.out.size⟩
    · have hmk : ∀ w : World, (Instr.makeSlice 23 (.int .i64 1) (.int .i64 1)).run Try.prog w = .ok (.slice (some ⟨w.heap.size, 0, none⟩) 1 1) (w.alloc (.cells #[.int .i64 0] 3)) := by
        intro w
        have h := run_make (P := Try.prog) w 23 3 i0 (.int .i64 0) Try.underlying23 hi hz0 .i64 .i64 1 1 (by omega) (Int.le_refl _) (by rw [hz2]; omega) (by omega)
        rw [hz1] at h
        have e : madeCells (Value.int .i64 0).cells (Int.toNat 1 * 1) = #[.int .i64 0] := by kernel_rfl
        rw [e] at h
        exact h
      have HZ0 : Hid (∀ w : World, IOwn (w.alloc (.cells #[.int .i64 0] 3)) w.heap.size (.slice (some ⟨w.heap.size, 0, none⟩) 1 1) ([0] : List Int)) := Lib.hid (fun w => World.ownsRow_lit w #[.int .i64 0] 1 (Nat.le_refl _) (by unfold maxLen; omega) rfl)
      have HZF : Hid (wgtB ([0] : List Int) = false) := Lib.hid (by decide)
      have HMT : Hid (wgtB ([36] : List Int) = true) := Lib.hid (by decide)
      have HMM : Hid (meaB ([36] : List Int) = true) := Lib.hid (by decide)
      have HV : Hid (∀ wr, Below w1.heap.size w1 wr → IRd wr (.slice A 1 c) xs) := Lib.hid (fun wr hb => by have := ord.keep (SameAt.of_below hb); rwa [hN] at this)
      rw [hN]
      clear hi hz0 hz1 hz2 ord hN
      have C1 := Lib.hid (Below.refl w1.heap.size w1)
      go_wp2_with fail
      refine (implWeightsOk_any w1 _ xs (HV.out w1 C1.out)).mono ?_
      rintro e w2 ⟨rfl, b2⟩
      rw [HB.out]
      have C2 := Lib.hid (below_step C1.out b2 C1.out.size)
      clear b2
      go_wp2_with fail
      refine (specWeightsOk_any w2 _ xs (HV.out w2 C2.out)).mono ?_
      rintro e w' ⟨rfl, rfl⟩
      rw [HB.out]
      have HM : Hid (IOwn (w2.alloc (.cells #[.int .i64 36] 3)) w2.heap.size (.slice (some ⟨w2.heap.size, 0, none⟩) 1 1) ([36] : List Int)) := Lib.hid (World.ownsRow_lit w2 #[.int .i64 36] 1 (Nat.le_refl _) (by unfold maxLen; omega) rfl)
      have C3 : Hid (Below w1.heap.size w1 (w2.alloc (.cells #[.int .i64 36] 3))) := Lib.hid (C2.out.alloc C2.out.size _)
      have hz3 : Hid ((w2.alloc (.cells #[.int .i64 36] 3)).heap.size = w2.heap.size + 1) := Lib.hid (World.size_alloc _ _)
      go_wp2_with fail
      generalize (w2.alloc (.cells #[.int .i64 36] 3)) = w3 at HM C3 hz3 ⊢
      have hl1 := lit1_12 w3
      rw [hz3.out] at hl1
      have HL1 := Lib.hid hl1
      clear hl1
      refine (implWeightsOk_any _ _ [1] HL1.out).mono ?_
      rintro e w4 ⟨rfl, b4⟩
      rw [HW1.out]
      have D4 := Lib.hid (below_step ((Below.refl w3.heap.size w3).alloc (Nat.le_refl _) _) b4 (by simp))
      have C4 := Lib.hid (below_step C3.out D4.out C3.out.size)
      clear b4 HL1
      go_wp2_with fail
      refine (implWeightsOk_any _ _ ([0] : List Int) (HZ0.out w4).rd).mono ?_
      rintro e w5 ⟨rfl, b5⟩
      rw [HZF.out]
      have E5 := Lib.hid (below_step ((Below.refl w4.heap.size w4).alloc (Nat.le_refl _) _) b5 (by simp))
      have D5 := Lib.hid (below_step D4.out E5.out D4.out.size)
      have C5 := Lib.hid (below_step C4.out E5.out C4.out.size)
      have HM5 := Lib.hid (HM.out.keep (SameAt.of_below D5.out)).rd
      clear b5 E5
      go_wp2_with fail
      refine (implMeasureOk_any w5 _ _ HM5.out).mono ?_
      rintro e w' ⟨rfl, rfl⟩
      rw [HMM.out]
      go_wp2_with fail
      refine (implWeightsOk_any w5 _ _ HM5.out).mono ?_
      rintro e w6 ⟨rfl, b6⟩
      rw [HMT.out]
      have C6 := Lib.hid (below_step C5.out b6 C5.out.size)
      clear b6
      go_wp2_with fail
      go_ret
      exact ⟨rfl, below_step HB1.out C6.out HB1.out.size⟩
    · have hmk : ∀ w : World, (Instr.makeSlice 23 (.int .i64 2) (.int .i64 2)).run Try.prog w = .ok (.slice (some ⟨w.heap.size, 0, none⟩) 2 2) (w.alloc (.cells #[.int .i64 0, .int .i64 0] 3)) := by
        intro w
        have h := run_make (P := Try.prog) w 23 3 i0 (.int .i64 0) Try.underlying23 hi hz0 .i64 .i64 2 2 (by omega) (Int.le_refl _) (by rw [hz2]; omega) (by omega)
        rw [hz1] at h
        have e : madeCells (Value.int .i64 0).cells (Int.toNat 2 * 1) = #[.int .i64 0, .int .i64 0] := by kernel_rfl
        rw [e] at h
        exact h
      have HZ0 : Hid (∀ w : World, IOwn (w.alloc (.cells #[.int .i64 0, .int .i64 0] 3)) w.heap.size (.slice (some ⟨w.heap.size, 0, none⟩) 2 2) ([0, 0] : List Int)) := Lib.hid (fun w => World.ownsRow_lit w #[.int .i64 0, .int .i64 0] 2 (Nat.le_refl _) (by unfold maxLen; omega) rfl)
      have HZF : Hid (wgtB ([0, 0] : List Int) = false) := Lib.hid (by decide)
      have HMT : Hid (wgtB ([36, 0] : List Int) = true) := Lib.hid (by decide)
      have HMM : Hid (meaB ([36, 0] : List Int) = true) := Lib.hid (by decide)
      have HV : Hid (∀ wr, Below w1.heap.size w1 wr → IRd wr (.slice A 2 c) xs) := Lib.hid (fun wr hb => by have := ord.keep (SameAt.of_below hb); rwa [hN] at this)
      rw [hN]
      clear hi hz0 hz1 hz2 ord hN
      have C1 := Lib.hid (Below.refl w1.heap.size w1)
      go_wp2_with fail
      refine (implWeightsOk_any w1 _ xs (HV.out w1 C1.out)).mono ?_
      rintro e w2 ⟨rfl, b2⟩
      rw [HB.out]
      have C2 := Lib.hid (below_step C1.out b2 C1.out.size)
      clear b2
      go_wp2_with fail
      refine (specWeightsOk_any w2 _ xs (HV.out w2 C2.out)).mono ?_
      rintro e w' ⟨rfl, rfl⟩
      rw [HB.out]
      have HM : Hid (IOwn (w2.alloc (.cells #[.int .i64 36, .int .i64 0] 3)) w2.heap.size (.slice (some ⟨w2.heap.size, 0, none⟩) 2 2) ([36, 0] : List Int)) := Lib.hid (World.ownsRow_lit w2 #[.int .i64 36, .int .i64 0] 2 (Nat.le_refl _) (by unfold maxLen; omega) rfl)
      have C3 : Hid (Below w1.heap.size w1 (w2.alloc (.cells #[.int .i64 36, .int .i64 0] 3))) := Lib.hid (C2.out.alloc C2.out.size _)
      have hz3 : Hid ((w2.alloc (.cells #[.int .i64 36, .int .i64 0] 3)).heap.size = w2.heap.size + 1) := Lib.hid (World.size_alloc _ _)
      go_wp2_with fail
      generalize (w2.alloc (.cells #[.int .i64 36, .int .i64 0] 3)) = w3 at HM C3 hz3 ⊢
      have hl1 := lit1_12 w3
      rw [hz3.out] at hl1
      have HL1 := Lib.hid hl1
      clear hl1
      refine (implWeightsOk_any _ _ [1] HL1.out).mono ?_
      rintro e w4 ⟨rfl, b4⟩
      rw [HW1.out]
      have D4 := Lib.hid (below_step ((Below.refl w3.heap.size w3).alloc (Nat.le_refl _) _) b4 (by simp))
      have C4 := Lib.hid (below_step C3.out D4.out C3.out.size)
      clear b4 HL1
      go_wp2_with fail
      refine (implWeightsOk_any _ _ ([0, 0] : List Int) (HZ0.out w4).rd).mono ?_
      rintro e w5 ⟨rfl, b5⟩
      rw [HZF.out]
      have E5 := Lib.hid (below_step ((Below.refl w4.heap.size w4).alloc (Nat.le_refl _) _) b5 (by simp))
      have D5 := Lib.hid (below_step D4.out E5.out D4.out.size)
      have C5 := Lib.hid (below_step C4.out E5.out C4.out.size)
      have HM5 := Lib.hid (HM.out.keep (SameAt.of_below D5.out)).rd
      clear b5 E5
      go_wp2_with fail
      refine (implMeasureOk_any w5 _ _ HM5.out).mono ?_
      rintro e w' ⟨rfl, rfl⟩
      rw [HMM.out]
      go_wp2_with fail
      refine (implWeightsOk_any w5 _ _ HM5.out).mono ?_
      rintro e w6 ⟨rfl, b6⟩
      rw [HMT.out]
      have C6 := Lib.hid (below_step C5.out b6 C5.out.size)
      clear b6
      go_wp2_with fail
      go_ret
      exact ⟨rfl, below_step HB1.out C6.out HB1.out.size⟩
    · have hmk : ∀ w : World, (Instr.makeSlice 23 (.int .i64 3) (.int .i64 3)).run Try.prog w = .ok (.slice (some ⟨w.heap.size, 0, none⟩) 3 3) (w.alloc (.cells #[.int .i64 0, .int .i64 0, .int .i64 0] 3)) := by
        intro w
        have h := run_make (P := Try.prog) w 23 3 i0 (.int .i64 0) Try.underlying23 hi hz0 .i64 .i64 3 3 (by omega) (Int.le_refl _) (by rw [hz2]; omega) (by omega)
        rw [hz1] at h
        have e : madeCells (Value.int .i64 0).cells (Int.toNat 3 * 1) = #[.int .i64 0, .int .i64 0, .int .i64 0] := by kernel_rfl
        rw [e] at h
        exact h
      have HZ0 : Hid (∀ w : World, IOwn (w.alloc (.cells #[.int .i64 0, .int .i64 0, .int .i64 0] 3)) w.heap.size (.slice (some ⟨w.heap.size, 0, none⟩) 3 3) ([0, 0, 0] : List Int)) := Lib.hid (fun w => World.ownsRow_lit w #[.int .i64 0, .int .i64 0, .int .i64 0] 3 (Nat.le_refl _) (by unfold maxLen; omega) rfl)
      have HZF : Hid (wgtB ([0, 0, 0] : List Int) = false) := Lib.hid (by decide)
      have HMT : Hid (wgtB ([36, 0, 0] : List Int) = true) := Lib.hid (by decide)
      have HMM : Hid (meaB ([36, 0, 0] : List Int) = true) := Lib.hid (by decide)
      have HV : Hid (∀ wr, Below w1.heap.size w1 wr → IRd wr (.slice A 3 c) xs) := Lib.hid (fun wr hb => by have := ord.keep (SameAt.of_below hb); rwa [hN] at this)
      rw [hN]
      clear hi hz0 hz1 hz2 ord hN
      have C1 := Lib.hid (Below.refl w1.heap.size w1)
      go_wp2_with fail
      refine (implWeightsOk_any w1 _ xs (HV.out w1 C1.out)).mono ?_
      rintro e w2 ⟨rfl, b2⟩
      rw [HB.out]
      have C2 := Lib.hid (below_step C1.out b2 C1.out.size)
      clear b2
      go_wp2_with fail
      refine (specWeightsOk_any w2 _ xs (HV.out w2 C2.out)).mono ?_
      rintro e w' ⟨rfl, rfl⟩
      rw [HB.out]
      have HM : Hid (IOwn (w2.alloc (.cells #[.int .i64 36, .int .i64 0, .int .i64 0] 3)) w2.heap.size (.slice (some ⟨w2.heap.size, 0, none⟩) 3 3) ([36, 0, 0] : List Int)) := Lib.hid (World.ownsRow_lit w2 #[.int .i64 36, .int .i64 0, .int .i64 0] 3 (Nat.le_refl _) (by unfold maxLen; omega) rfl)
      have C3 : Hid (Below w1.heap.size w1 (w2.alloc (.cells #[.int .i64 36, .int .i64 0, .int .i64 0] 3))) := Lib.hid (C2.out.alloc C2.out.size _)
      have hz3 : Hid ((w2.alloc (.cells #[.int .i64 36, .int .i64 0, .int .i64 0] 3)).heap.size = w2.heap.size + 1) := Lib.hid (World.size_alloc _ _)
      go_wp2_with fail
      generalize (w2.alloc (.cells #[.int .i64 36, .int .i64 0, .int .i64 0] 3)) = w3 at HM C3 hz3 ⊢
      have hl1 := lit1_12 w3
      rw [hz3.out] at hl1
      have HL1 := Lib.hid hl1
      clear hl1
      refine (implWeightsOk_any _ _ [1] HL1.out).mono ?_
      rintro e w4 ⟨rfl, b4⟩
      rw [HW1.out]
      have D4 := Lib.hid (below_step ((Below.refl w3.heap.size w3).alloc (Nat.le_refl _) _) b4 (by simp))
      have C4 := Lib.hid (below_step C3.out D4.out C3.out.size)
      clear b4 HL1
      go_wp2_with fail
      refine (implWeightsOk_any _ _ ([0, 0, 0] : List Int) (HZ0.out w4).rd).mono ?_
      rintro e w5 ⟨rfl, b5⟩
      rw [HZF.out]
      have E5 := Lib.hid (below_step ((Below.refl w4.heap.size w4).alloc (Nat.le_refl _) _) b5 (by simp))
      have D5 := Lib.hid (below_step D4.out E5.out D4.out.size)
      have C5 := Lib.hid (below_step C4.out E5.out C4.out.size)
      have HM5 := Lib.hid (HM.out.keep (SameAt.of_below D5.out)).rd
      clear b5 E5
      go_wp2_with fail
      refine (implMeasureOk_any w5 _ _ HM5.out).mono ?_
      rintro e w' ⟨rfl, rfl⟩
      rw [HMM.out]
      go_wp2_with fail
      refine (implWeightsOk_any w5 _ _ HM5.out).mono ?_
      rintro e w6 ⟨rfl, b6⟩
      rw [HMT.out]
      have C6 := Lib.hid (below_step C5.out b6 C5.out.size)
      clear b6
      go_wp2_with fail
      go_ret
      exact ⟨rfl, below_step HB1.out C6.out HB1.out.size⟩
    · have hmk : ∀ w : World, (Instr.makeSlice 23 (.int .i64 4) (.int .i64 4)).run Try.prog w = .ok (.slice (some ⟨w.heap.size, 0, none⟩) 4 4) (w.alloc (.cells #[.int .i64 0, .int .i64 0, .int .i64 0, .int .i64 0] 3)) := by
        intro w
        have h := run_make (P := Try.prog) w 23 3 i0 (.int .i64 0) Try.underlying23 hi hz0 .i64 .i64 4 4 (by omega) (Int.le_refl _) (by rw [hz2]; omega) (by omega)
        rw [hz1] at h
        have e : madeCells (Value.int .i64 0).cells (Int.toNat 4 * 1) = #[.int .i64 0, .int .i64 0, .int .i64 0, .int .i64 0] := by kernel_rfl
        rw [e] at h
        exact h
      have HZ0 : Hid (∀ w : World, IOwn (w.alloc (.cells #[.int .i64 0, .int .i64 0, .int .i64 0, .int .i64 0] 3)) w.heap.size (.slice (some ⟨w.heap.size, 0, none⟩) 4 4) ([0, 0, 0, 0] : List Int)) := Lib.hid (fun w => World.ownsRow_lit w #[.int .i64 0, .int .i64 0, .int .i64 0, .int .i64 0] 4 (Nat.le_refl _) (by unfold maxLen; omega) rfl)
      have HZF : Hid (wgtB ([0, 0, 0, 0] : List Int) = false) := Lib.hid (by decide)
      have HMT : Hid (wgtB ([36, 0, 0, 0] : List Int) = true) := Lib.hid (by decide)
      have HMM : Hid (meaB ([36, 0, 0, 0] : List Int) = true) := Lib.hid (by decide)
      have HV : Hid (∀ wr, Below w1.heap.size w1 wr → IRd wr (.slice A 4 c) xs) := Lib.hid (fun wr hb => by have := ord.keep (SameAt.of_below hb); rwa [hN] at this)
      rw [hN]
      clear hi hz0 hz1 hz2 ord hN
      have C1 := Lib.hid (Below.refl w1.heap.size w1)
      go_wp2_with fail
      refine (implWeightsOk_any w1 _ xs (HV.out w1 C1.out)).mono ?_
      rintro e w2 ⟨rfl, b2⟩
      rw [HB.out]
      have C2 := Lib.hid (below_step C1.out b2 C1.out.size)
      clear b2
      go_wp2_with fail
      refine (specWeightsOk_any w2 _ xs (HV.out w2 C2.out)).mono ?_
      rintro e w' ⟨rfl, rfl⟩
      rw [HB.out]
      have HM : Hid (IOwn (w2.alloc (.cells #[.int .i64 36, .int .i64 0, .int .i64 0, .int .i64 0] 3)) w2.heap.size (.slice (some ⟨w2.heap.size, 0, none⟩) 4 4) ([36, 0, 0, 0] : List Int)) := Lib.hid (World.ownsRow_lit w2 #[.int .i64 36, .int .i64 0, .int .i64 0, .int .i64 0] 4 (Nat.le_refl _) (by unfold maxLen; omega) rfl)
      have C3 : Hid (Below w1.heap.size w1 (w2.alloc (.cells #[.int .i64 36, .int .i64 0, .int .i64 0, .int .i64 0] 3))) := Lib.hid (C2.out.alloc C2.out.size _)
      have hz3 : Hid ((w2.alloc (.cells #[.int .i64 36, .int .i64 0, .int .i64 0, .int .i64 0] 3)).heap.size = w2.heap.size + 1) := Lib.hid (World.size_alloc _ _)
      go_wp2_with fail
      generalize (w2.alloc (.cells #[.int .i64 36, .int .i64 0, .int .i64 0, .int .i64 0] 3)) = w3 at HM C3 hz3 ⊢
      have hl1 := lit1_12 w3
      rw [hz3.out] at hl1
      have HL1 := Lib.hid hl1
      clear hl1
      refine (implWeightsOk_any _ _ [1] HL1.out).mono ?_
      rintro e w4 ⟨rfl, b4⟩
      rw [HW1.out]
      have D4 := Lib.hid (below_step ((Below.refl w3.heap.size w3).alloc (Nat.le_refl _) _) b4 (by simp))
      have C4 := Lib.hid (below_step C3.out D4.out C3.out.size)
      clear b4 HL1
      go_wp2_with fail
      refine (implWeightsOk_any _ _ ([0, 0, 0, 0] : List Int) (HZ0.out w4).rd).mono ?_
      rintro e w5 ⟨rfl, b5⟩
      rw [HZF.out]
      have E5 := Lib.hid (below_step ((Below.refl w4.heap.size w4).alloc (Nat.le_refl _) _) b5 (by simp))
      have D5 := Lib.hid (below_step D4.out E5.out D4.out.size)
      have C5 := Lib.hid (below_step C4.out E5.out C4.out.size)
      have HM5 := Lib.hid (HM.out.keep (SameAt.of_below D5.out)).rd
      clear b5 E5
      go_wp2_with fail
      refine (implMeasureOk_any w5 _ _ HM5.out).mono ?_
      rintro e w' ⟨rfl, rfl⟩
      rw [HMM.out]
      go_wp2_with fail
      refine (implWeightsOk_any w5 _ _ HM5.out).mono ?_
      rintro e w6 ⟨rfl, b6⟩
      rw [HMT.out]
      have C6 := Lib.hid (below_step C5.out b6 C5.out.size)
      clear b6
      go_wp2_with fail
      go_ret
      exact ⟨rfl, below_step HB1.out C6.out HB1.out.size⟩

end Go.Proofs.Ytbjmhbkpeglpkaa
