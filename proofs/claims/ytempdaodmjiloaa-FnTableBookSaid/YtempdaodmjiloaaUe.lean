/- Contracts of spec's AdditiveOk and MeasureOf. Conditions: rows that read as lists. -/
import Derived.Test.YtempdaodmjiloaaUc
namespace Go.Proofs.Ytempdaodmjiloaa
open Go.RowKit
set_option linter.unusedVariables false

theorem add_no1 {n : Int} {t : List Int} (h : tokB n t = false) : addB n t = false := by rw [addB, h]; rfl

theorem add_no2 {n : Int} {t : List Int} {a b : Nat} (hf : fault t = some (a, b)) : addB n t = false := by rw [addB, hf]; simp

theorem add_at {n : Int} {t : List Int} (h : tokB n t = true) (hf : fault t = none) : addB n t = (tget t (t.length - 1) == 36) := by
  rw [addB, h, hf]; rfl

set_option maxRecDepth 100000 in
set_option maxHeartbeats 4000000 in
theorem specAdditiveOk_any (w : World) (n : Int) (v : Value) (t : List Int) (hv : IRd w v t) :
    Calls Try.prog 34 #[.int .i64 n, v] w (BoolPost (addB n t) w) := by
  obtain ⟨A, c, rfl, hl, hm, -⟩ := id hv
  have HV := Lib.hid hv
  clear hv
  obtain ⟨fa, hfa⟩ : ∃ x, ffA n t = x := ⟨_, rfl⟩
  obtain ⟨fb, hfb⟩ : ∃ x, ffB n t = x := ⟨_, rfl⟩
  obtain ⟨fo, hfo⟩ : ∃ x, ffO n t = x := ⟨_, rfl⟩
  have HF := Lib.hid (And.intro hfa (And.intro hfb hfo))
  have HP : Hid (∀ w0 w2 r, FFPost n t w0 r w2 → r = .returned (.tuple #[.int .i64 fa, .int .i64 fb, .bool fo]) ∧ Below w0.heap.size w0 w2) := Lib.hid (by rintro w0 w2 r ⟨rfl, b⟩; rw [hfa, hfb, hfo]; exact ⟨rfl, b⟩)
  clear hfa hfb hfo
  rcases Bool.eq_false_or_eq_true (tokB n t) with h | h
  · have H := Lib.hid h
    obtain ⟨-, -, -, -, -, h16, h2⟩ := tok_len h
    rcases hf : fault t with _ | ⟨a, b⟩
    · obtain ⟨L, hL⟩ : ∃ L, t.length = L + 1 := ⟨t.length - 1, by omega⟩
      have HL := Lib.hid hL
      obtain ⟨x, hx⟩ : ∃ x, t[L]? = some x := ⟨_, List.getElem?_eq_getElem (by omega)⟩
      have HX := Lib.hid hx
      have HA : Hid (addB n t = (x == 36)) := Lib.hid (by rw [add_at h hf, hL]; show (tget t L == 36) = _; rw [tget_at hx])
      have hfo : fo = false := by rw [← HF.out.2.2]; exact (ff_none hf).2.2
      subst hfo
      have hw1 : IntKind.i64.wrap ((t.length : Int) - 1) = (L : Int) := by rw [IntWalk.i64_in _ (by omega)]; omega
      have hw2 : wrap64 ((t.length : Int) - 1) = (L : Int) := by rw [IntWalk.wrap64_in _ (by omega)]; omega
      have hi1 : (0 : Int) ≤ (L : Int) := by omega
      have hi2 : (L : Int) < (t.length : Int) := by omega
      clear hL hx h hf HF
      obtain ⟨s, hs⟩ : ∃ s, (x == 36) = s := ⟨_, rfl⟩
      rw [hs] at HA
      go_enter Try.func34, Try.ntmps34
      go_wp2_with fail
      refine (specFirstFault_any _ _ _ _ HV.out).mono ?_
      intro r w2 hp
      obtain ⟨rfl, b2⟩ := HP.out _ _ _ hp
      have HB2 := Lib.hid b2
      have HV2 := Lib.hid (HV.out.keep (SameAt.of_below b2))
      clear b2 hp
      go_wp2_with fail
      refine (specTableOk_any _ _ _ _ HV2.out).mono ?_
      rintro r w' ⟨rfl, rfl⟩
      rw [H.out]
      obtain ⟨B, off, y, rfl, -, hy, hcy⟩ := HV2.out.at_ (k := L) (by have := HL.out; omega)
      obtain rfl : y = x := Option.some.inj (hy.symm.trans HX.out)
      clear hy
      go_wp2_with fail
      go_ret
      exact ⟨ret_bool HA.out.symm, HB2.out⟩
    · have hfo : fo = true := by rw [← HF.out.2.2]; exact (ff_some h hf).2.2
      subst hfo
      have HN := Lib.hid (add_no2 (n := n) hf)
      clear h hf HF
      go_enter Try.func34, Try.ntmps34
      go_wp2_with fail
      refine (specFirstFault_any _ _ _ _ HV.out).mono ?_
      intro r w2 hp
      obtain ⟨rfl, b2⟩ := HP.out _ _ _ hp
      have HB2 := Lib.hid b2
      have HV2 := Lib.hid (HV.out.keep (SameAt.of_below b2))
      clear b2 hp
      go_wp2_with fail
      refine (specTableOk_any _ _ _ _ HV2.out).mono ?_
      rintro r w' ⟨rfl, rfl⟩
      rw [H.out]
      go_wp2_with fail
      go_ret
      exact ⟨ret_bool HN.out.symm, HB2.out⟩
  · have H := Lib.hid h
    have HN := Lib.hid (add_no1 h)
    clear h HF
    go_enter Try.func34, Try.ntmps34
    go_wp2_with fail
    refine (specFirstFault_any _ _ _ _ HV.out).mono ?_
    intro r w2 hp
    obtain ⟨rfl, b2⟩ := HP.out _ _ _ hp
    have HB2 := Lib.hid b2
    have HV2 := Lib.hid (HV.out.keep (SameAt.of_below b2))
    clear b2 hp
    go_wp2_with fail
    refine (specTableOk_any _ _ _ _ HV2.out).mono ?_
    rintro r w' ⟨rfl, rfl⟩
    rw [H.out]
    go_wp2_with fail
    go_ret
    exact ⟨ret_bool HN.out.symm, HB2.out⟩

theorem measR_no {n : Int} {t : List Int} (h : addB n t = false) : measR n t = [] := by rw [measR, h]; rfl

theorem measR_yes {n : Int} {t : List Int} (h : addB n t = true) : measR n t = measL n t := by rw [measR, if_pos h]

theorem meas_at {m : Nat} {t : List Int} {k : Nat} (h : k < m) : (measL (m : Int) t)[k]? = some (tget t (2 ^ k)) := by
  rw [measL, Int.toNat_natCast, List.getElem?_map, List.getElem?_range h]; rfl

set_option maxRecDepth 100000 in
set_option maxHeartbeats 4000000 in
theorem specMeasureOf_any (w : World) (n : Int) (v : Value) (t : List Int) (hv : IRd w v t) :
    Calls Try.prog 37 #[.int .i64 n, v] w (RowOk w.heap.size (measR n t) (addB n t) w) := by
  obtain ⟨A, c, rfl, hl, hm, -⟩ := id hv
  have HV := Lib.hid hv
  clear hv
  rcases Bool.eq_false_or_eq_true (addB n t) with h | h
  · have H := Lib.hid h
    obtain ⟨m, rfl, m1, m4, hlen, h16, h2⟩ := tok_len ((addB_iff _ _).1 h).1
    have HPW : Hid (∀ k, k < m → 2 ^ k < t.length) := Lib.hid (fun k hk => by rw [hlen]; exact Nat.pow_lt_pow_right (by decide) hk)
    have HZ : Hid ((measL (m : Int) t).length = m) := Lib.hid (by rw [meas_len, Int.toNat_natCast])
    clear h hlen
    obtain ⟨i0, hi, hz0, hz1, hz2⟩ := info_parts Try_intinfo
    go_enter Try.func37, Try.ntmps37
    go_wp2_with fail
    refine (specAdditiveOk_any _ _ _ _ HV.out).mono ?_
    rintro r w2 ⟨rfl, b2⟩
    rw [H.out]
    have HB2 := Lib.hid b2
    have HV2 : Hid (∀ wr, Below w2.heap.size w2 wr → IRd wr (.slice A t.length c) t) := Lib.hid (fun wr h => (HV.out.keep (SameAt.of_below b2)).keep (SameAt.of_below h))
    clear b2
    have H0 : Hid (AppRel w2 (measL (m : Int) t) 0 (.slice (some ⟨w2.heap.size, 0, none⟩) 0 0) (w2.alloc (.cells #[] 3))) := Lib.hid (app_start w2 _)
    go_wp2_with fail
    go_loopw [6, 7] (fun p i wr => ∃ k : Nat, i = .int .i64 (k : Int) ∧ k ≤ m ∧ Hid (AppRel w2 (measL (m : Int) t) k p wr)) (fun _ i _ => m - (intOf i).toNat)
    case atStart => exact ⟨0, rfl, Nat.zero_le _, H0⟩
    case round =>
      obtain ⟨k, rfl, hk, HF⟩ := hrel
      clear H0
      by_cases hlt : k < m
      · have hp := HPW.out k hlt
        have HS := Lib.hid (meas_at (t := t) hlt)
        obtain ⟨B, off, x, rfl, -, hx, hcx⟩ := (HV2.out wr HF.out.2).at_ hp
        rw [tget_at hx] at HS
        have hsz := HF.out.2.size
        have hown0 := HF.out.1
        unfold IOwn at hown0
        have hown := Lib.hid (World.ownsRow.alloc (w := wr) hown0 (.cells #[.int .i64 x] 3))
        clear hx hown0
        obtain rfl | rfl | rfl | rfl : k = 0 ∨ k = 1 ∨ k = 2 ∨ k = 3 := by omega
        · simp only [Nat.reducePow] at hp hcx
          have hp' : ((t.length : Nat) : Int) ≤ 16 := by omega
          go_wp2_with (at_builtin; refine wpList_append_own _ rfl _ _ 23 rfl w2.heap.size 3 i0 (.int .i64 0) 1 8 Try.underlying23 hi hz0 hz1 hz2 rfl (by decide) _ _ _ rfl hown.out ⟨wr.heap.size, 0, none⟩ 1 1 [.int .i64 x] rfl rfl ?a0 one_int ?b0 ?c0 ?d0 ?_)
          case a0 => exact one_new wr _ _
          case b0 => (unfold maxLen; simp) <;> omega
          case c0 => simp <;> omega
          case d0 => simp <;> omega
          intro v' w' hown' hgrow _
          have HL := Lib.hid (HF.out.step HS.out (show IOwn w' w2.heap.size v' ((measL (m : Int) t).take 0 ++ [x]) from by simpa [IOwn] using hown') (grown_after (w := wr) ((Below.refl _ wr).alloc (Nat.le_refl _) _) hgrow))
          clear hown' hgrow hown hi hz0 hz1 hz2
          go_wp2_with fail
          go_roundw
          case rel => exact ⟨0 + 1, by first | rfl | go_num, by omega, HL⟩
          case measure => simp [intOf]; omega
        · simp only [Nat.reducePow] at hp hcx
          have hp' : ((t.length : Nat) : Int) ≤ 16 := by omega
          go_wp2_with (at_builtin; refine wpList_append_own _ rfl _ _ 23 rfl w2.heap.size 3 i0 (.int .i64 0) 1 8 Try.underlying23 hi hz0 hz1 hz2 rfl (by decide) _ _ _ rfl hown.out ⟨wr.heap.size, 0, none⟩ 1 1 [.int .i64 x] rfl rfl ?a1 one_int ?b1 ?c1 ?d1 ?_)
          case a1 => exact one_new wr _ _
          case b1 => (unfold maxLen; simp) <;> omega
          case c1 => simp <;> omega
          case d1 => simp <;> omega
          intro v' w' hown' hgrow _
          have HL := Lib.hid (HF.out.step HS.out (show IOwn w' w2.heap.size v' ((measL (m : Int) t).take 1 ++ [x]) from by simpa [IOwn] using hown') (grown_after (w := wr) ((Below.refl _ wr).alloc (Nat.le_refl _) _) hgrow))
          clear hown' hgrow hown hi hz0 hz1 hz2
          go_wp2_with fail
          go_roundw
          case rel => exact ⟨1 + 1, by first | rfl | go_num, by omega, HL⟩
          case measure => simp [intOf]; omega
        · simp only [Nat.reducePow] at hp hcx
          have hp' : ((t.length : Nat) : Int) ≤ 16 := by omega
          go_wp2_with (at_builtin; refine wpList_append_own _ rfl _ _ 23 rfl w2.heap.size 3 i0 (.int .i64 0) 1 8 Try.underlying23 hi hz0 hz1 hz2 rfl (by decide) _ _ _ rfl hown.out ⟨wr.heap.size, 0, none⟩ 1 1 [.int .i64 x] rfl rfl ?a2 one_int ?b2 ?c2 ?d2 ?_)
          case a2 => exact one_new wr _ _
          case b2 => (unfold maxLen; simp) <;> omega
          case c2 => simp <;> omega
          case d2 => simp <;> omega
          intro v' w' hown' hgrow _
          have HL := Lib.hid (HF.out.step HS.out (show IOwn w' w2.heap.size v' ((measL (m : Int) t).take 2 ++ [x]) from by simpa [IOwn] using hown') (grown_after (w := wr) ((Below.refl _ wr).alloc (Nat.le_refl _) _) hgrow))
          clear hown' hgrow hown hi hz0 hz1 hz2
          go_wp2_with fail
          go_roundw
          case rel => exact ⟨2 + 1, by first | rfl | go_num, by omega, HL⟩
          case measure => simp [intOf]; omega
        · simp only [Nat.reducePow] at hp hcx
          have hp' : ((t.length : Nat) : Int) ≤ 16 := by omega
          go_wp2_with (at_builtin; refine wpList_append_own _ rfl _ _ 23 rfl w2.heap.size 3 i0 (.int .i64 0) 1 8 Try.underlying23 hi hz0 hz1 hz2 rfl (by decide) _ _ _ rfl hown.out ⟨wr.heap.size, 0, none⟩ 1 1 [.int .i64 x] rfl rfl ?a3 one_int ?b3 ?c3 ?d3 ?_)
          case a3 => exact one_new wr _ _
          case b3 => (unfold maxLen; simp) <;> omega
          case c3 => simp <;> omega
          case d3 => simp <;> omega
          intro v' w' hown' hgrow _
          have HL := Lib.hid (HF.out.step HS.out (show IOwn w' w2.heap.size v' ((measL (m : Int) t).take 3 ++ [x]) from by simpa [IOwn] using hown') (grown_after (w := wr) ((Below.refl _ wr).alloc (Nat.le_refl _) _) hgrow))
          clear hown' hgrow hown hi hz0 hz1 hz2
          go_wp2_with fail
          go_roundw
          case rel => exact ⟨3 + 1, by first | rfl | go_num, by omega, HL⟩
          case measure => simp [intOf]; omega
      · obtain ⟨o1, b1⟩ := HF.out.all (by rw [HZ.out]; omega)
        have B1 := Lib.hid (below_step HB2.out b1 HB2.out.size)
        have O1 := Lib.hid (o1.base HB2.out.size)
        clear b1 o1
        go_wp2_with fail
        go_ret2
        exact rowOk_ret H.out (measR_yes H.out) O1.out B1.out
  · have H := Lib.hid h
    clear h
    go_enter Try.func37, Try.ntmps37
    go_wp2_with fail
    refine (specAdditiveOk_any _ _ _ _ HV.out).mono ?_
    rintro r w2 ⟨rfl, b2⟩
    rw [H.out]
    have HB2 := Lib.hid b2
    clear b2
    go_wp2_with fail
    go_ret2
    exact rowOk_ret H.out (measR_no H.out) (lit_own _ _ HB2.out.size) (HB2.out.alloc HB2.out.size _)

end Go.Proofs.Ytempdaodmjiloaa
