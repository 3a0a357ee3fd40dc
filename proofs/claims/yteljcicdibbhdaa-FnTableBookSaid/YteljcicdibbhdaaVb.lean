/- Contracts of the program's functions on tables and bets: AdditiveOk, MeasureOf, BringsIn, BetsAgainst, and their helpers. Conditions: rows that read as lists. -/
import Derived.Test.YteljcicdibbhdaaVa
import Derived.Test.YteljcicdibbhdaaUg
namespace Go.Proofs.Yteljcicdibbhdaa
open Go.RowKit
set_option linter.unusedVariables false

theorem allW_any (w : Int) (h1 : 1 ≤ w) (h2 : w ≤ 4) (L : Nat) (hL : allI w = (L : Int)) (W : World) :
    Calls Try.prog 66 #[.int .i64 w] W fun e W' => e = .returned (.int .i64 (L : Int)) ∧ W = W' := by
  rw [← hL]; exact allWorlds_any w h1 h2 W

theorem all_last {m L : Nat} {t : List Int} (hl : t.length = 2 ^ m) (hL : t.length = L + 1) : allI (m : Int) = (L : Int) := by
  rw [allI, Int.toNat_natCast]
  have : ((2 ^ m : Nat) : Int) = 2 ^ m := by push_cast; rfl
  rw [← this, ← hl, hL]
  omega

set_option maxRecDepth 100000 in
set_option maxHeartbeats 4000000 in
theorem implAdditiveOk_any (w : World) (n : Int) (v : Value) (t : List Int) (hv : IRd w v t) :
    Calls Try.prog 46 #[.int .i64 n, v] w (BoolPost (addB n t) w) := by
  obtain ⟨A, c, rfl, hl, hm, -⟩ := id hv
  have HV := Lib.hid hv
  clear hv
  obtain ⟨fa, hfa⟩ : ∃ x, ffA n t = x := ⟨_, rfl⟩
  obtain ⟨fb, hfb⟩ : ∃ x, ffB n t = x := ⟨_, rfl⟩
  obtain ⟨fo, hfo⟩ : ∃ x, ffO n t = x := ⟨_, rfl⟩
  have HF := Lib.hid (And.intro hfa (And.intro hfb hfo))
  have HP : Hid (∀ w0 w2 r, FFPost n t w0 r w2 → r = .returned (.tuple #[.int .i64 fa, .int .i64 fb, .bool fo]) ∧ Below w0.heap.size w0 w2) := Lib.hid (by rintro w0 w2 r ⟨rfl, b⟩; rw [hfa, hfb, hfo]; exact ⟨rfl, b⟩)
  clear hfa hfb hfo
  rcases Bool.eq_false_or_eq_true (tokB n t) with h | h
  · have H := Lib.hid h
    obtain ⟨m, rfl, m1, m4, hlen, h16, h2⟩ := tok_len h
    rcases hf : fault t with _ | ⟨a, b⟩
    · obtain ⟨L, hL⟩ : ∃ L, t.length = L + 1 := ⟨t.length - 1, by omega⟩
      have HAL := Lib.hid (all_last hlen hL)
      obtain ⟨x, hx⟩ : ∃ x, t[L]? = some x := ⟨_, List.getElem?_eq_getElem (by omega)⟩
      have HX := Lib.hid hx
      have HA : Hid (addB (m : Int) t = (x == 36)) := Lib.hid (by rw [add_at h hf, hL]; show (tget t L == 36) = _; rw [tget_at hx])
      have hfo : fo = false := by rw [← HF.out.2.2]; exact (ff_none hf).2.2
      subst hfo
      have hi1 : (0 : Int) ≤ (L : Int) := by omega
      have hi2 : (L : Int) < (t.length : Int) := by omega
      have HLL : Hid (L < t.length) := Lib.hid (by omega)
      clear hL hx h hf HF hlen
      obtain ⟨s, hs⟩ : ∃ s, (x == 36) = s := ⟨_, rfl⟩
      rw [hs] at HA
      go_enter Try.func46, Try.ntmps46
      go_wp2_with fail
      refine (implTableOk_any _ _ _ _ HV.out).mono ?_
      rintro r w' ⟨rfl, rfl⟩
      rw [H.out]
      go_wp2_with fail
      refine (implFirstFault_any _ _ _ _ HV.out).mono ?_
      intro r w2 hp
      obtain ⟨rfl, b2⟩ := HP.out _ _ _ hp
      have HB2 := Lib.hid b2
      have HV2 := Lib.hid (HV.out.keep (SameAt.of_below b2))
      clear b2 hp
      obtain ⟨B, off, y, rfl, -, hy, hcy⟩ := HV2.out.at_ (k := L) HLL.out
      obtain rfl : y = x := Option.some.inj (hy.symm.trans HX.out)
      clear hy
      go_wp2_with fail
      refine (allW_any _ (by omega) (by omega) L HAL.out _).mono ?_
      rintro r w' ⟨rfl, rfl⟩
      go_wp2_with fail
      go_ret
      exact ⟨ret_bool HA.out.symm, HB2.out⟩
    · have hfo : fo = true := by rw [← HF.out.2.2]; exact (ff_some h hf).2.2
      subst hfo
      have HN := Lib.hid (add_no2 (n := (m : Int)) hf)
      clear h hf HF hlen
      go_enter Try.func46, Try.ntmps46
      go_wp2_with fail
      refine (implTableOk_any _ _ _ _ HV.out).mono ?_
      rintro r w' ⟨rfl, rfl⟩
      rw [H.out]
      go_wp2_with fail
      refine (implFirstFault_any _ _ _ _ HV.out).mono ?_
      intro r w2 hp
      obtain ⟨rfl, b2⟩ := HP.out _ _ _ hp
      have HB2 := Lib.hid b2
      clear b2 hp
      go_wp2_with fail
      go_ret
      exact ⟨ret_bool HN.out.symm, HB2.out⟩
  · have H := Lib.hid h
    have HN := Lib.hid (add_no1 h)
    clear h HF
    go_enter Try.func46, Try.ntmps46
    go_wp2_with fail
    refine (implTableOk_any _ _ _ _ HV.out).mono ?_
    rintro r w' ⟨rfl, rfl⟩
    rw [H.out]
    go_wp2_with fail
    go_ret
    exact ⟨ret_bool HN.out.symm, Below.refl _ _⟩

set_option maxRecDepth 100000 in
set_option maxHeartbeats 4000000 in
theorem implMeasureOf_any (w : World) (n : Int) (v : Value) (t : List Int) (hv : IRd w v t) :
    Calls Try.prog 48 #[.int .i64 n, v] w (RowOk w.heap.size (measR n t) (addB n t) w) := by
  obtain ⟨A, c, rfl, hl, hm, -⟩ := id hv
  have HV := Lib.hid hv
  clear hv
  rcases Bool.eq_false_or_eq_true (addB n t) with h | h
  · have H := Lib.hid h
    obtain ⟨m, rfl, m1, m4, hlen, h16, h2⟩ := tok_len ((addB_iff _ _).1 h).1
    have HPW : Hid (∀ k, k < m → 2 ^ k < t.length) := Lib.hid (fun k hk => by rw [hlen]; exact Nat.pow_lt_pow_right (by decide) hk)
    have HZ : Hid ((measL (m : Int) t).length = m) := Lib.hid (by rw [meas_len, Int.toNat_natCast])
    clear h hlen
    obtain ⟨i0, hi, hz0, hz1, hz2⟩ := info_parts Try_intinfo
    go_enter Try.func48, Try.ntmps48
    go_wp2_with fail
    refine (implAdditiveOk_any _ _ _ _ HV.out).mono ?_
    rintro r w2 ⟨rfl, b2⟩
    rw [H.out]
    have HB2 := Lib.hid b2
    have HV2 : Hid (∀ wr, Below w2.heap.size w2 wr → IRd wr (.slice A t.length c) t) := Lib.hid (fun wr h => (HV.out.keep (SameAt.of_below b2)).keep (SameAt.of_below h))
    clear b2
    go_wp2_with (at_make; refine wpList_make_full _ rfl _ _ 41 rfl w2.heap.size 3 i0 (.int .i64 0) 1 Try.underlying41 hi hz0 hz1 .i64 .i64 _ _ m rfl rfl rfl rfl ?b2 ?b3 (Nat.le_refl _) ?_)
    case b2 => rw [hz2]; omega
    case b3 => unfold maxLen; omega
    intro w0 hown0 hgrow0
    have H0 : Hid (FillRel w2 (measL (m : Int) t) m 0 w0) := Lib.hid ⟨by rw [copied_zero, HZ.out]; simpa [toList_madeCells_one, Value.cells] using hown0, (Below.refl _ _).grown hgrow0 (Nat.le_refl _) (fun k hk => by cases hk)⟩
    clear hown0 hgrow0 hi hz0 hz1 hz2
    go_wp2_with fail
    go_loopw [16] (fun i wr => ∃ k : Nat, i = .int .i64 k ∧ k ≤ m ∧ Hid (FillRel w2 (measL (m : Int) t) m k wr)) (fun i _ => m - (intOf i).toNat)
    case atStart => exact ⟨0, rfl, Nat.zero_le _, H0⟩
    case round =>
      obtain ⟨k, rfl, hk, HF⟩ := hrel
      clear H0
      by_cases hlt : k < m
      · have hp := HPW.out k hlt
        have HS := Lib.hid (meas_at (t := t) hlt)
        obtain ⟨B, off, x, rfl, -, hx, hcx⟩ := (HV2.out wr HF.out.2).at_ hp
        rw [tget_at hx] at HS
        have hfz := HF.out.1.frozenAt k
        obtain ⟨old, hold⟩ := some_cell HF.out.1 (k := k) (by omega)
        clear hx
        obtain rfl | rfl | rfl | rfl : k = 0 ∨ k = 1 ∨ k = 2 ∨ k = 3 := by omega
        · simp only [Nat.reducePow] at hp hcx
          have hp' : ((t.length : Nat) : Int) ≤ 16 := by omega
          go_wp2_with fail
          go_roundw
          case rel => exact ⟨0 + 1, by first | rfl | go_num, by omega, (show Hid _ from HF.out.step HS.out)⟩
          case measure => simp [intOf]; omega
        · simp only [Nat.reducePow] at hp hcx
          have hp' : ((t.length : Nat) : Int) ≤ 16 := by omega
          go_wp2_with fail
          go_roundw
          case rel => exact ⟨1 + 1, by first | rfl | go_num, by omega, (show Hid _ from HF.out.step HS.out)⟩
          case measure => simp [intOf]; omega
        · simp only [Nat.reducePow] at hp hcx
          have hp' : ((t.length : Nat) : Int) ≤ 16 := by omega
          go_wp2_with fail
          go_roundw
          case rel => exact ⟨2 + 1, by first | rfl | go_num, by omega, (show Hid _ from HF.out.step HS.out)⟩
          case measure => simp [intOf]; omega
        · simp only [Nat.reducePow] at hp hcx
          have hp' : ((t.length : Nat) : Int) ≤ 16 := by omega
          go_wp2_with fail
          go_roundw
          case rel => exact ⟨3 + 1, by first | rfl | go_num, by omega, (show Hid _ from HF.out.step HS.out)⟩
          case measure => simp [intOf]; omega
      · obtain ⟨o1, b1⟩ := HF.out.all HZ.out (by omega)
        have B1 := Lib.hid (below_step HB2.out b1 HB2.out.size)
        have O1 := Lib.hid (o1.base HB2.out.size)
        clear b1 o1
        go_wp2_with fail
        go_ret2
        exact rowOk_ret H.out (measR_yes H.out) O1.out B1.out
  · have H := Lib.hid h
    clear h
    go_enter Try.func48, Try.ntmps48
    go_wp2_with fail
    refine (implAdditiveOk_any _ _ _ _ HV.out).mono ?_
    rintro r w2 ⟨rfl, b2⟩
    rw [H.out]
    have HB2 := Lib.hid b2
    clear b2
    go_wp2_with fail
    go_ret2
    exact rowOk_ret H.out (measR_no H.out) (nil_own _ _) HB2.out

end Go.Proofs.Yteljcicdibbhdaa
