/- The walks of the laws of WorstOf, LosesOk, BestOf. Conditions: a row of bytes that came in. -/
import Derived.Test.YtpkecmcgpiimkaaLw3
namespace Go.Proofs.Ytpkecmcgpiimkaa
open Go.RowKit
set_option linter.unusedVariables false

theorem rep_at {n k : Nat} {x : Int} (h : k < n) : (List.replicate n x)[k]? = some x := by simp [h]

theorem sumR_yes {a b : List Int} (h : sumB a b = true) : sumR a b = sumL a b ∧ gokB (sumL a b) = true := ⟨by rw [sumR, h]; rfl, (sumB_parts h).2.2.2⟩

theorem sumR_no {a b : List Int} (h : sumB a b = false) : sumR a b = [] := by rw [sumR, h]; rfl

theorem worst_nil : worstI [] = 0 := rfl

theorem best_nil : bestI [] = 0 := rfl

theorem worst_le {xs : List Int} (h : gokB xs = true) {k : Nat} {x : Int} (hx : xs[k]? = some x) : worstI xs ≤ x := (worst_least h).2 x (List.mem_of_getElem? hx)

theorem le_best {xs : List Int} (h : gokB xs = true) {k : Nat} {x : Int} (hx : xs[k]? = some x) : x ≤ bestI xs := (best_greatest h).2 x (List.mem_of_getElem? hx)

set_option maxHeartbeats 8000000 in
theorem FnWorstOf_walk (a0 : Option Addr) (len0 cap0 : Nat) (z0 : List Int) (w : World) (w0 : IsRowC .u8 w a0 len0 cap0 z0) :
    Calls Try.prog 6 #[.slice a0 len0 cap0] w fun e w' => e = .returned (.bool true) ∧ Below w.heap.size w w' := by
  by_cases hlen : 1048576 < len0
  · clear w0
    go_enter Try.func6, Try.ntmps6
    go_wp2
    go_ret
    exact ⟨rfl, Below.refl _ _⟩
  · have hlen' : decide (1048576 < len0) = false := by simpa using hlen
    obtain ⟨i0, hi, hz0, hz1, hz2⟩ := info_parts Try_intinfo
    go_enter Try.func6, Try.ntmps6
    go_wp2_with fail
    refine (drawWorstOf_any _ _ _ _ _ w0).mono ?_
    rintro e w1 ⟨v, xs, rfl, og, hx8, hxa, b1⟩
    clear hlen hlen' w0
    have HG := Lib.hid og
    have HA := Lib.hid hxa
    have B1 := Lib.hid b1
    clear og hxa b1
    obtain ⟨A, c, rfl, hlc, hm, -⟩ := id HG.out.rd
    rcases Bool.eq_false_or_eq_true (gokB xs) with ht | ht
    · have HT := Lib.hid ht
      obtain ⟨n, hn⟩ : ∃ n, worstI xs = n := ⟨_, rfl⟩
      obtain ⟨nb1, nb2⟩ : -1000 ≤ n ∧ n ≤ 1000 := by rw [← hn]; exact worst_bounds ht
      have HN := Lib.hid hn
      have HM := Lib.hid (show n ∈ xs from by rw [← hn]; exact (worst_least ht).1)
      have HLe : Hid (∀ (k : Nat) (x : Int), xs[k]? = some x → n ≤ x) := Lib.hid (fun k x hx => by rw [← hn]; exact worst_le ht hx)
      have H0 : Hid (AppRel w1 (List.replicate xs.length 1) 0 (.slice (some ⟨w1.heap.size, 0, none⟩) 0 0) (w1.alloc (.cells #[] 3))) := Lib.hid (app_start w1 _)
      have hxl : xs.length ≤ 8 := hx8
      clear ht hn
      go_wp2_with fail
      refine (implWorstOf_any _ _ _ HG.out.rd).mono ?_
      rintro e w' ⟨rfl, rfl⟩
      rw [HT.out, HN.out]
      go_wp2_with fail
      refine (specWorstOf_any _ _ _ HG.out.rd).mono ?_
      rintro e w' ⟨rfl, rfl⟩
      rw [HT.out, HN.out]
      go_wp2_with fail
      go_loopw [8, 9] (fun p i wr => ∃ k : Nat, i = .int .i64 k ∧ k ≤ xs.length ∧ Hid (AppRel w1 (List.replicate xs.length 1) k p wr)) (fun _ i _ => xs.length - (intOf i).toNat)
      case atStart => exact ⟨0, rfl, Nat.zero_le _, H0⟩
      case round =>
        obtain ⟨k, rfl, hk, HF⟩ := hrel
        clear H0
        by_cases hlt : k < xs.length
        · obtain ⟨b, off, x, rfl, -, hx, hcx⟩ := (HG.out.rd.keep (SameAt.of_below HF.out.2)).at_ hlt
          have hle := HLe.out k x hx
          have HS : Hid ((List.replicate xs.length (1 : Int))[k]? = some 1) := Lib.hid (rep_at hlt)
          have hown0 := HF.out.1
          unfold IOwn at hown0
          have hown := Lib.hid (World.ownsRow.alloc (w := wr) hown0 (.cells #[.int .i64 1] 3))
          have hsz := HF.out.2.size
          clear hx hown0
          go_wp2_with (at_builtin; refine wpList_append_own _ rfl _ _ 23 rfl w1.heap.size 3 i0 (.int .i64 0) 1 8 Try.underlying23 hi hz0 hz1 hz2 rfl (by decide) _ _ _ rfl hown.out ⟨wr.heap.size, 0, none⟩ 1 1 [.int .i64 1] rfl rfl ?c1 one_int ?c3 ?c4 ?c5 ?_)
          case c1 => exact one_new wr _ _
          case c3 => unfold maxLen; simp; omega
          case c4 => simp; omega
          case c5 => simp; omega
          intro v' w' hown' hgrow _
          have HL := Lib.hid (HF.out.step HS.out (show IOwn w' w1.heap.size v' ((List.replicate xs.length (1 : Int)).take k ++ [1]) from by simpa [IOwn, Nat.min_eq_left hk] using hown') (grown_after (w := wr) ((Below.refl _ wr).alloc (Nat.le_refl _) _) hgrow))
          clear hown' hgrow hown hi hz0 hz1 hz2
          go_wp2_with fail
          go_roundw
          case rel => exact ⟨k + 1, by go_num, by omega, HL⟩
          case measure => simp [intOf]; omega
        · obtain ⟨o1, b2⟩ := HF.out.all (by simp; omega)
          have O1 := Lib.hid o1
          have HG2 := Lib.hid (HG.out.keep (SameAt.of_below b2))
          have B2 := Lib.hid (below_step B1.out b2 B1.out.size)
          clear o1 b2 HF
          go_wp2_with fail
          refine (implSumGamble_any _ _ _ _ _ HG2.out.rd O1.out.rd).mono ?_
          rintro e w3 ⟨vm, rfl, om, b3⟩
          have B3 := Lib.hid (below_step B2.out b3 B2.out.size)
          have HG3 := Lib.hid (HG2.out.keep (SameAt.of_below b3))
          clear b3 B2 HG2 O1
          rcases Bool.eq_false_or_eq_true (sumB xs (List.replicate xs.length 1)) with hs | hs
          · have hR : sumR xs (List.replicate xs.length 1) = sumL xs (List.replicate xs.length 1) := (sumR_yes hs).1
            have HR1 := Lib.hid (sumR_yes hs).2
            have HR2 := Lib.hid ((more_worst hs).trans (congrArg (· + 1) HN.out))
            rw [hs]
            rw [hR] at om
            have OM := Lib.hid om
            clear om hs hR
            go_wp2_with fail
            refine (implWorstOf_any _ _ _ OM.out.rd).mono ?_
            rintro e w' ⟨rfl, rfl⟩
            rw [HR1.out, HR2.out]
            go_wp2_with fail
            refine (hasInt_any _ _ _ _ HG3.out.rd HM.out).mono ?_
            rintro e w' ⟨rfl, rfl⟩
            go_wp2_with fail
            go_ret
            exact ⟨ret_bool (by simp), B3.out⟩
          · have hR := sumR_no hs
            rw [hs]
            rw [hR] at om
            have OM := Lib.hid om
            clear om hs hR
            go_wp2_with fail
            refine (implWorstOf_any _ _ _ OM.out.rd).mono ?_
            rintro e w' ⟨rfl, rfl⟩
            rw [gok_nil, worst_nil]
            go_wp2_with fail
            refine (hasInt_any _ _ _ _ HG3.out.rd HM.out).mono ?_
            rintro e w' ⟨rfl, rfl⟩
            go_wp2_with fail
            go_ret
            exact ⟨ret_bool (by simp), B3.out⟩
    · have HT := Lib.hid ht
      have HN := Lib.hid (worst_no ht)
      clear ht
      go_wp2_with fail
      refine (implWorstOf_any _ _ _ HG.out.rd).mono ?_
      rintro e w' ⟨rfl, rfl⟩
      rw [HT.out, HN.out]
      go_wp2_with fail
      refine (specWorstOf_any _ _ _ HG.out.rd).mono ?_
      rintro e w' ⟨rfl, rfl⟩
      rw [HT.out, HN.out]
      go_wp2_with fail
      refine (implGambleOk_any _ _ _ HG.out.rd).mono ?_
      rintro e w' ⟨rfl, rfl⟩
      rw [HT.out]
      go_wp2_with fail
      refine (alive_any _).mono ?_
      rintro e w' ⟨rfl, rfl⟩
      go_wp2_with fail
      go_ret
      exact ⟨ret_bool (by simp), B1.out⟩

set_option maxHeartbeats 8000000 in
theorem FnLosesOk_walk (a0 : Option Addr) (len0 cap0 : Nat) (z0 : List Int) (w : World) (w0 : IsRowC .u8 w a0 len0 cap0 z0) :
    Calls Try.prog 9 #[.slice a0 len0 cap0] w fun e w' => e = .returned (.bool true) ∧ Below w.heap.size w w' := by
  by_cases hlen : 1048576 < len0
  · clear w0
    go_enter Try.func9, Try.ntmps9
    go_wp2
    go_ret
    exact ⟨rfl, Below.refl _ _⟩
  · have hlen' : decide (1048576 < len0) = false := by simpa using hlen
    obtain ⟨i0, hi, hz0, hz1, hz2⟩ := info_parts Try_intinfo
    go_enter Try.func9, Try.ntmps9
    go_wp2_with fail
    refine (drawLosesOk_any _ _ _ _ _ w0).mono ?_
    rintro e w1 ⟨v, xs, rfl, og, hx8, hxa, b1⟩
    clear hlen hlen' w0
    have HG := Lib.hid og
    have HA := Lib.hid hxa
    have B1 := Lib.hid b1
    clear og hxa b1
    obtain ⟨A, c, rfl, hlc, hm, -⟩ := id HG.out.rd
    rcases Bool.eq_false_or_eq_true (gokB xs) with ht | ht
    · have HT := Lib.hid ht
      obtain ⟨s, hs⟩ : ∃ s, losesB xs = s := ⟨_, rfl⟩
      have HS1 := Lib.hid hs
      have HBt := Lib.hid ((loses_better ht).trans hs)
      have hto := times_gok ht (t := -1) (.inr (.inl rfl))
      have HTB := Lib.hid hto
      have HTR : Hid (timesR xs (-1) = mulL xs (-1)) := Lib.hid (by rw [timesR, hto]; rfl)
      have H0 : Hid (AppRel w1 (List.replicate xs.length (-1)) 0 (.slice (some ⟨w1.heap.size, 0, none⟩) 0 0) (w1.alloc (.cells #[] 3))) := Lib.hid (app_start w1 _)
      clear ht hs hto
      go_wp2_with fail
      refine (implLosesOk_any _ _ _ HG.out.rd).mono ?_
      rintro e w' ⟨rfl, rfl⟩
      rw [HS1.out]
      go_wp2_with fail
      refine (specLosesOk_any _ _ _ HG.out.rd).mono ?_
      rintro e w' ⟨rfl, rfl⟩
      rw [HS1.out]
      go_wp2_with fail
      refine (specGambleOk_any _ _ _ HG.out.rd).mono ?_
      rintro e w' ⟨rfl, rfl⟩
      rw [HT.out]
      go_wp2_with fail
      go_loopw [5, 6] (fun p i wr => ∃ k : Nat, i = .int .i64 k ∧ k ≤ xs.length ∧ Hid (AppRel w1 (List.replicate xs.length (-1)) k p wr)) (fun _ i _ => xs.length - (intOf i).toNat)
      case atStart => exact ⟨0, rfl, Nat.zero_le _, H0⟩
      case round =>
        obtain ⟨k, rfl, hk, HF⟩ := hrel
        clear H0
        by_cases hlt : k < xs.length
        · have HS : Hid ((List.replicate xs.length (-1 : Int))[k]? = some (-1)) := Lib.hid (rep_at hlt)
          have hown0 := HF.out.1
          unfold IOwn at hown0
          have hown := Lib.hid (World.ownsRow.alloc (w := wr) hown0 (.cells #[.int .i64 (-1)] 3))
          have hsz := HF.out.2.size
          clear hown0
          go_wp2_with (at_builtin; refine wpList_append_own _ rfl _ _ 23 rfl w1.heap.size 3 i0 (.int .i64 0) 1 8 Try.underlying23 hi hz0 hz1 hz2 rfl (by decide) _ _ _ rfl hown.out ⟨wr.heap.size, 0, none⟩ 1 1 [.int .i64 (-1)] rfl rfl ?c1 one_int ?c3 ?c4 ?c5 ?_)
          case c1 => exact one_new wr _ _
          case c3 => unfold maxLen; simp; omega
          case c4 => simp; omega
          case c5 => simp; omega
          intro v' w' hown' hgrow _
          have HL := Lib.hid (HF.out.step HS.out (show IOwn w' w1.heap.size v' ((List.replicate xs.length (-1 : Int)).take k ++ [-1]) from by simpa [IOwn, Nat.min_eq_left hk] using hown') (grown_after (w := wr) ((Below.refl _ wr).alloc (Nat.le_refl _) _) hgrow))
          clear hown' hgrow hown hi hz0 hz1 hz2
          go_wp2_with fail
          go_roundw
          case rel => exact ⟨k + 1, by go_num, by omega, HL⟩
          case measure => simp [intOf]; omega
        · obtain ⟨o1, b2⟩ := HF.out.all (by simp; omega)
          have HG2 := Lib.hid (HG.out.keep (SameAt.of_below b2))
          have B2 := Lib.hid (below_step B1.out b2 B1.out.size)
          have O2 := Lib.hid o1
          clear o1 b2 HF
          go_wp2_with fail
          refine (implTimesGamble_any _ _ _ _ HG2.out.rd).mono ?_
          rintro e w3 ⟨vm, rfl, om, b3⟩
          have B3 := Lib.hid (below_step B2.out b3 B2.out.size)
          have HG3 := Lib.hid (HG2.out.keep (SameAt.of_below b3))
          have O3 := Lib.hid (O2.out.keep (SameAt.of_below b3))
          clear b3 B2 HG2 O2
          rw [HTR.out] at om
          rw [HTB.out]
          have OM := Lib.hid om
          clear om
          go_wp2_with fail
          refine (implBetterOk_any _ _ _ _ _ O3.out.rd HG3.out.rd).mono ?_
          rintro e w' ⟨q, rfl, rfl⟩
          rw [HBt.out]
          have B4 : Hid (Below w.heap.size w (w3.drewN q)) := Lib.hid (below_drewN B3.out q)
          have OM4 : Hid (IOwn (w3.drewN q) _ vm _) := Lib.hid OM.out
          clear B3 OM O3 HG3
          generalize w3.drewN q = w4 at *
          rcases Bool.eq_false_or_eq_true s with hs | hs
          · subst hs
            have HO := Lib.hid (loses_other HS1.out)
            go_wp2_with fail
            refine (implLosesOk_any _ _ _ OM4.out.rd).mono ?_
            rintro e w' ⟨rfl, rfl⟩
            rw [HO.out]
            go_wp2_with fail
            go_ret
            exact ⟨ret_bool (by simp), B4.out⟩
          · subst hs
            go_wp2_with fail
            go_ret
            exact ⟨ret_bool (by simp), B4.out⟩
    · have HT := Lib.hid ht
      have HL : Hid (losesB xs = false) := Lib.hid (by rw [losesB, ht]; rfl)
      clear ht
      go_wp2_with fail
      refine (implLosesOk_any _ _ _ HG.out.rd).mono ?_
      rintro e w' ⟨rfl, rfl⟩
      rw [HL.out]
      go_wp2_with fail
      refine (specLosesOk_any _ _ _ HG.out.rd).mono ?_
      rintro e w' ⟨rfl, rfl⟩
      rw [HL.out]
      go_wp2_with fail
      refine (specGambleOk_any _ _ _ HG.out.rd).mono ?_
      rintro e w' ⟨rfl, rfl⟩
      rw [HT.out]
      go_wp2_with fail
      refine (alive_any _).mono ?_
      rintro e w' ⟨rfl, rfl⟩
      go_wp2_with fail
      go_ret
      exact ⟨ret_bool (by simp), B1.out⟩

set_option maxHeartbeats 8000000 in
theorem FnBestOf_walk (a0 : Option Addr) (len0 cap0 : Nat) (z0 : List Int) (w : World) (w0 : IsRowC .u8 w a0 len0 cap0 z0) :
    Calls Try.prog 7 #[.slice a0 len0 cap0] w fun e w' => e = .returned (.bool true) ∧ Below w.heap.size w w' := by
  by_cases hlen : 1048576 < len0
  · clear w0
    go_enter Try.func7, Try.ntmps7
    go_wp2
    go_ret
    exact ⟨rfl, Below.refl _ _⟩
  · have hlen' : decide (1048576 < len0) = false := by simpa using hlen
    obtain ⟨i0, hi, hz0, hz1, hz2⟩ := info_parts Try_intinfo
    go_enter Try.func7, Try.ntmps7
    go_wp2_with fail
    refine (drawBestOf_any _ _ _ _ _ w0).mono ?_
    rintro e w1 ⟨v, xs, rfl, og, hx8, hxa, b1⟩
    clear hlen hlen' w0
    have HG := Lib.hid og
    have HA := Lib.hid hxa
    have B1 := Lib.hid b1
    clear og hxa b1
    obtain ⟨A, c, rfl, hlc, hm, -⟩ := id HG.out.rd
    rcases Bool.eq_false_or_eq_true (gokB xs) with ht | ht
    · have HT := Lib.hid ht
      obtain ⟨n, hn⟩ : ∃ n, bestI xs = n := ⟨_, rfl⟩
      obtain ⟨m, hw⟩ : ∃ m, worstI xs = m := ⟨_, rfl⟩
      obtain ⟨nb1, nb2⟩ : -1000 ≤ n ∧ n ≤ 1000 := by rw [← hn]; exact best_bounds ht
      obtain ⟨mb1, mb2⟩ : -1000 ≤ m ∧ m ≤ 1000 := by rw [← hw]; exact worst_bounds ht
      have HN := Lib.hid hn
      have HW := Lib.hid hw
      have HM := Lib.hid (show n ∈ xs from by rw [← hn]; exact (best_greatest ht).1)
      have HLe : Hid (∀ (k : Nat) (x : Int), xs[k]? = some x → x ≤ n) := Lib.hid (fun k x hx => by rw [← hn]; exact le_best ht hx)
      have hto := times_gok ht (t := -1) (.inr (.inl rfl))
      have HTB := Lib.hid hto
      have HTR : Hid (timesR xs (-1) = mulL xs (-1)) := Lib.hid (by rw [timesR, hto]; rfl)
      have HO1 := Lib.hid (timesB_parts hto).2
      have HO2 := Lib.hid ((other_best ht).trans (congrArg (fun z => -z) hw))
      clear ht hn hw hto
      go_wp2_with fail
      refine (implBestOf_any _ _ _ HG.out.rd).mono ?_
      rintro e w' ⟨rfl, rfl⟩
      rw [HT.out, HN.out]
      go_wp2_with fail
      refine (specBestOf_any _ _ _ HG.out.rd).mono ?_
      rintro e w' ⟨rfl, rfl⟩
      rw [HT.out, HN.out]
      go_wp2_with fail
      go_loop [8] (fun i => ∃ k : Nat, i = .int .i64 k ∧ k ≤ xs.length) (fun i => xs.length - (intOf i).toNat)
      case atStart => exact ⟨0, rfl, Nat.zero_le _⟩
      case round =>
        obtain ⟨k, rfl, hk⟩ := hrel
        by_cases hlt : k < xs.length
        · obtain ⟨b, off, x, rfl, -, hx, hcx⟩ := HG.out.rd.at_ hlt
          have hle := HLe.out k x hx
          clear hx
          go_wp2_with fail
          go_round
          case rel => exact ⟨k + 1, by go_num, by omega⟩
          case measure => simp [intOf]; omega
        · go_wp2_with fail
          refine (implTimesGamble_any _ _ _ _ HG.out.rd).mono ?_
          rintro e w3 ⟨vm, rfl, om, b3⟩
          have B3 := Lib.hid (below_step B1.out b3 B1.out.size)
          have HG3 := Lib.hid (HG.out.keep (SameAt.of_below b3))
          clear b3
          rw [HTR.out] at om
          rw [HTB.out]
          have OM := Lib.hid om
          clear om
          go_wp2_with fail
          refine (implBestOf_any _ _ _ OM.out.rd).mono ?_
          rintro e w' ⟨rfl, rfl⟩
          rw [HO1.out, HO2.out]
          go_wp2_with fail
          refine (implWorstOf_any _ _ _ HG3.out.rd).mono ?_
          rintro e w' ⟨rfl, rfl⟩
          rw [HT.out, HW.out]
          go_wp2_with fail
          refine (hasInt_any _ _ _ _ HG3.out.rd HM.out).mono ?_
          rintro e w' ⟨rfl, rfl⟩
          go_wp2_with fail
          go_ret
          exact ⟨ret_bool (by simp), B3.out⟩
    · have HT := Lib.hid ht
      have HN := Lib.hid (best_no ht)
      clear ht
      go_wp2_with fail
      refine (implBestOf_any _ _ _ HG.out.rd).mono ?_
      rintro e w' ⟨rfl, rfl⟩
      rw [HT.out, HN.out]
      go_wp2_with fail
      refine (specBestOf_any _ _ _ HG.out.rd).mono ?_
      rintro e w' ⟨rfl, rfl⟩
      rw [HT.out, HN.out]
      go_wp2_with fail
      refine (implGambleOk_any _ _ _ HG.out.rd).mono ?_
      rintro e w' ⟨rfl, rfl⟩
      rw [HT.out]
      go_wp2_with fail
      refine (alive_any _).mono ?_
      rintro e w' ⟨rfl, rfl⟩
      go_wp2_with fail
      go_ret
      exact ⟨ret_bool (by simp), B1.out⟩

end Go.Proofs.Ytpkecmcgpiimkaa
