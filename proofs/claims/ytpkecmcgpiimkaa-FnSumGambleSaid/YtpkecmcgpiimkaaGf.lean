/- The contract of spec.SumGamble. Conditions: rows that read as lists. -/
import Derived.Test.YtpkecmcgpiimkaaGe
namespace Go.Proofs.Ytpkecmcgpiimkaa
open Go.RowKit
set_option linter.unusedVariables false

set_option maxHeartbeats 2000000 in
theorem specSumGamble_any (w : World) (v u : Value) (xs ys : List Int) (hv : IRd w v xs) (hu : IRd w u ys) :
    Calls Try.prog 23 #[v, u] w (RowOk w.heap.size (sumR xs ys) (sumB xs ys) w) := by
  obtain ⟨A, c, rfl, hl, hm, -⟩ := id hv
  obtain ⟨A', c', rfl, hl', hm', -⟩ := id hu
  have HV := Lib.hid hv
  have HU := Lib.hid hu
  clear hv hu
  rcases Bool.eq_false_or_eq_true (gokB xs) with h1 | h1
  · rcases Bool.eq_false_or_eq_true (gokB ys) with h2 | h2
    · rcases Bool.eq_false_or_eq_true (decide (xs.length = ys.length)) with h3 | h3
      · have H : Hid (gok2 xs ys = true) := Lib.hid (by rw [gok2_of h1 h2 h3]; rfl)
        have HL := Lib.hid ((gok2_iff xs ys).1 H.out).2.2
        have HX := Lib.hid (small3_of h1)
        have HY := Lib.hid (small3_of h2)
        have hn4 := (small3_of h1).1
        have HZ := Lib.hid (sumL_len xs ys HL.out)
        have hne := len_ne h3
        have H0 : Hid (AppRel w (sumL xs ys) 0 (.slice (some ⟨w.heap.size, 0, none⟩) 0 0) (w.alloc (.cells #[] 3))) := Lib.hid (app_start w (sumL xs ys))
        obtain ⟨i0, hi, hz0, hz1, hz2⟩ := info_parts Try_intinfo
        clear h3
        go_enter Try.func23, Try.ntmps23
        go_wp2_with fail
        refine (specGambleOk_any _ _ _ HV.out).mono ?_
        rintro e w' ⟨rfl, rfl⟩
        go_wp2_with fail
        refine (specGambleOk_any _ _ _ HU.out).mono ?_
        rintro e w' ⟨rfl, rfl⟩
        go_wp2_with fail
        clear h1 h2 hne
        go_loopw [6, 7] (fun p i wr => ∃ k : Nat, i = .int .i64 k ∧ k ≤ xs.length ∧ Hid (AppRel w (sumL xs ys) k p wr)) (fun _ i _ => xs.length - (intOf i).toNat)
        case atStart => exact ⟨0, rfl, Nat.zero_le _, H0⟩
        case round =>
          obtain ⟨k, rfl, hk, HF⟩ := hrel
          clear H0
          by_cases hlt : k < xs.length
          · have hlt' : k < ys.length := by have := HL.out; omega
            obtain ⟨b, off, x, rfl, -, hx, hcx⟩ := (HV.out.keep (SameAt.of_below HF.out.2)).at_ hlt
            obtain ⟨b', off', y, rfl, -, hy, hcy⟩ := (HU.out.keep (SameAt.of_below HF.out.2)).at_ hlt'
            obtain ⟨hx1, hx2⟩ := HX.out.2 k x hx
            obtain ⟨hy1, hy2⟩ := HY.out.2 k y hy
            have HS := Lib.hid (sumL_at xs ys hx hy)
            have hown0 := HF.out.1
            unfold IOwn at hown0
            have hown := Lib.hid (World.ownsRow.alloc (w := wr) hown0 (.cells #[.int .i64 (x + y)] 3))
            have hsz := HF.out.2.size
            have hwr : IntKind.i64.wrap (x + y) = x + y := IntWalk.i64_in _ (by omega)
            clear hx hy hown0
            go_wp2_with fail
            go_region_law (refine step_append_lies _ rfl (.tmp 31) (.tmp 41) 23 rfl w.heap.size 3 i0 (.int .i64 0) 1 8 Try.underlying23 hi hz0 hz1 hz2 rfl (by decide) _ _ _ (by simp [Act.eval]) hown.out ⟨wr.heap.size, 0, none⟩ 1 1 [.int .i64 (x + y)] (by simp [Act.eval]) rfl (one_new wr _ _) one_int (by decide) (by unfold maxLen; simp; omega) (by simp; omega) (by simp; omega) _ rfl ?_; intro g cap w' hown' hgrow hat hlt2)
            all_goals go_wp2_with fail
            all_goals
              have HL := Lib.hid (HF.out.step HS.out (show IOwn w' w.heap.size _ ((sumL xs ys).take k ++ [x + y]) from by simpa [IOwn] using hown') (grown_after (w := wr) (below_drewN ((Below.refl _ wr).alloc (Nat.le_refl _) _) 1) hgrow))
              clear hown' hgrow hat hlt2 hown hi hz0 hz1 hz2
              go_roundw
              case rel => exact ⟨k + 1, by go_num, by omega, by simpa using HL⟩
              case measure => simp [intOf]; omega
          · obtain ⟨o1, b1⟩ := HF.out.all (by have := HZ.out; omega)
            have B1 := Lib.hid b1
            have O1 := Lib.hid o1
            clear b1 o1
            go_wp2_with fail
            refine (specGambleOk_any _ _ _ O1.out.rd).mono ?_
            rintro e w2 ⟨rfl, rfl⟩
            rcases Bool.eq_false_or_eq_true (gokB (sumL xs ys)) with hg | hg
            · have HG := Lib.hid hg
              clear hg
              rw [HG.out]
              go_wp2_with fail
              go_ret2
              exact rowOk_ret (by rw [sumB, H.out, HG.out]; rfl) (by rw [sumR, sumB, H.out, HG.out]; rfl) O1.out B1.out
            · have HG := Lib.hid hg
              clear hg
              rw [HG.out]
              go_wp2_with fail
              go_ret2
              exact rowOk_ret (by rw [sumB, H.out, HG.out]; rfl) (by rw [sumR, sumB, H.out, HG.out]; rfl) (lit_own _ _ B1.out.size) (B1.out.alloc B1.out.size _)
      · have H : Hid (gok2 xs ys = false) := Lib.hid (by rw [gok2_of h1 h2 h3]; rfl)
        have hne := len_ne h3
        clear h3
        go_enter Try.func23, Try.ntmps23
        go_wp2_with fail
        refine (specGambleOk_any _ _ _ HV.out).mono ?_
        rintro e w' ⟨rfl, rfl⟩
        go_wp2_with fail
        refine (specGambleOk_any _ _ _ HU.out).mono ?_
        rintro e w' ⟨rfl, rfl⟩
        go_wp2_with fail
        go_ret2
        exact rowOk_ret (by rw [sumB, H.out]; rfl) (by rw [sumR, sumB, H.out]; rfl) (lit_own _ _ (Nat.le_refl _)) ((Below.refl _ _).alloc (Nat.le_refl _) _)
    · have H : Hid (gok2 xs ys = false) := Lib.hid (by rw [gok2_of h1 h2 rfl]; rfl)
      go_enter Try.func23, Try.ntmps23
      go_wp2_with fail
      refine (specGambleOk_any _ _ _ HV.out).mono ?_
      rintro e w' ⟨rfl, rfl⟩
      go_wp2_with fail
      refine (specGambleOk_any _ _ _ HU.out).mono ?_
      rintro e w' ⟨rfl, rfl⟩
      go_wp2_with fail
      go_ret2
      exact rowOk_ret (by rw [sumB, H.out]; rfl) (by rw [sumR, sumB, H.out]; rfl) (lit_own _ _ (Nat.le_refl _)) ((Below.refl _ _).alloc (Nat.le_refl _) _)
  · have H : Hid (gok2 xs ys = false) := Lib.hid (by rw [gok2_of h1 rfl rfl]; rfl)
    go_enter Try.func23, Try.ntmps23
    go_wp2_with fail
    refine (specGambleOk_any _ _ _ HV.out).mono ?_
    rintro e w' ⟨rfl, rfl⟩
    go_wp2_with fail
    go_ret2
    exact rowOk_ret (by rw [sumB, H.out]; rfl) (by rw [sumR, sumB, H.out]; rfl) (lit_own _ _ (Nat.le_refl _)) ((Below.refl _ _).alloc (Nat.le_refl _) _)

end Go.Proofs.Ytpkecmcgpiimkaa
