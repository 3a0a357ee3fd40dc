/- The walk of the law of AdditiveOk. Conditions: a row of bytes that came in. -/
import Derived.Test.YtempdaodmjiloaaVc
import Derived.Test.YtempdaodmjiloaaUi
namespace Go.Proofs.Ytempdaodmjiloaa
open Go.RowKit
set_option linter.unusedVariables false

set_option maxRecDepth 100000 in
set_option maxHeartbeats 8000000 in
theorem FnAdditiveOk_walk (a0 : Option Addr) (len0 cap0 : Nat) (z0 : List Int) (w : World) (w0 : IsRowC .u8 w a0 len0 cap0 z0) :
    Calls Try.prog 6 #[.slice a0 len0 cap0] w fun e w' => e = .returned (.bool true) ∧ Below w.heap.size w w' := by
  by_cases hlen : 1048576 < len0
  · clear w0
    go_enter Try.func6, Try.ntmps6
    go_wp2
    go_ret
    exact ⟨rfl, Below.refl _ _⟩
  · have hlen' : decide (1048576 < len0) = false := by simpa using hlen
    go_enter Try.func6, Try.ntmps6
    go_wp2_with fail
    refine (drawAdditiveOk_any _ _ _ _ _ w0).mono ?_
    rintro e w1 ⟨n, vt, t, rfl, ovt1, hl17, hn1, hn5, B1⟩
    clear hlen hlen' w0
    have z1 := B1.size
    rcases Bool.eq_false_or_eq_true (tokB n t) with h | h
    · have HT := Lib.hid h
      obtain ⟨b, hb⟩ : ∃ b, addB n t = b := ⟨_, rfl⟩
      have HA := Lib.hid hb
      have HG : Hid (agB n t = !b) := Lib.hid (by rw [agB, h, hb]; rfl)
      have HS : Hid (decide (tabR (measL n t) = t) = b) := Lib.hid (by rw [← add_iff_tab h, hb])
      obtain ⟨m, rfl, m1, m4, hlen, h16, h2⟩ := tok_len h
      have HPW : Hid (∀ k, k < m → 2 ^ k < t.length) := Lib.hid (fun k hk => by rw [hlen]; exact Nat.pow_lt_pow_right (by decide) hk)
      have HZ : Hid ((measL (m : Int) t).length = m) := Lib.hid (by rw [meas_len, Int.toNat_natCast])
      clear h hb hlen
      obtain ⟨i0, hi, hz0, hz1, hz2⟩ := info_parts Try_intinfo
      cases b
      all_goals
        go_wp2_with fail
        refine (implAdditiveOk_any w1 _ vt t (ovt1.rd)).mono ?_
        rintro e w2 ⟨rfl, b2⟩
        rw [HA.out]
        have z2 := b2.size
        have B2 := below_step B1 b2 (by omega)
        have ovt2 := ovt1.keep (SameAt.of_below b2)
        clear B1 b2 ovt1
        go_wp2_with fail
        refine (specAdditiveOk_any w2 _ vt t (ovt2.rd)).mono ?_
        rintro e w3 ⟨rfl, b3⟩
        rw [HA.out]
        have z3 := b3.size
        have B3 := below_step B2 b3 (by omega)
        have ovt3 := ovt2.keep (SameAt.of_below b3)
        clear B2 b3 ovt2
        go_wp2_with fail
        refine (specTableOk_any _ _ _ _ (ovt3.rd)).mono ?_
        rintro e w' ⟨rfl, rfl⟩
        rw [HT.out]
        go_wp2_with fail
        refine (implBetsAgainst_any w3 _ vt t (ovt3.rd)).mono ?_
        rintro e w4 ⟨vb, rfl, ovb4, b4⟩
        rw [HG.out]
        have z4 := b4.size
        have B4 := below_step B3 b4 (by omega)
        have ovt4 := ovt3.keep (SameAt.of_below b4)
        clear B3 b4 ovt3
        obtain ⟨A, c, rfl, hlc, hmc, -⟩ := id ovt4.rd
        have HV2 : Hid (∀ wr, Below w4.heap.size w4 wr → IRd wr (.slice A t.length c) t) := Lib.hid (fun wr h => ovt4.rd.keep (SameAt.of_below h))
        have HB4 := Lib.hid B4
        have H0 : Hid (AppRel w4 (measL (m : Int) t) 0 (.slice (some ⟨w4.heap.size, 0, none⟩) 0 0) (w4.alloc (.cells #[] 3))) := Lib.hid (app_start w4 _)
        clear ovt4
        go_wp2_with fail
        go_loopw [8, 9] (fun p i wr => ∃ k : Nat, i = .int .i64 (k : Int) ∧ k ≤ m ∧ Hid (AppRel w4 (measL (m : Int) t) k p wr)) (fun _ i _ => m - (intOf i).toNat)
        case atStart => exact ⟨0, rfl, Nat.zero_le _, H0⟩
        case round =>
          obtain ⟨k, rfl, hk, HF⟩ := hrel
          clear H0
          by_cases hlt : k < m
          · have hp := HPW.out k hlt
            have HS2 := Lib.hid (meas_at (t := t) hlt)
            obtain ⟨G, off, x, rfl, -, hx, hcx⟩ := (HV2.out wr HF.out.2).at_ hp
            rw [tget_at hx] at HS2
            have hsz := HF.out.2.size
            have hown0 := HF.out.1
            unfold IOwn at hown0
            have hown := Lib.hid (World.ownsRow.alloc (w := wr) hown0 (.cells #[.int .i64 x] 3))
            clear hx hown0
            obtain rfl | rfl | rfl | rfl : k = 0 ∨ k = 1 ∨ k = 2 ∨ k = 3 := by omega
            · simp only [Nat.reducePow] at hp hcx
              have hp' : ((t.length : Nat) : Int) ≤ 16 := by omega
              go_wp2_with (at_builtin; refine wpList_append_own _ rfl _ _ 23 rfl w4.heap.size 3 i0 (.int .i64 0) 1 8 Try.underlying23 hi hz0 hz1 hz2 rfl (by decide) _ _ _ rfl hown.out ⟨wr.heap.size, 0, none⟩ 1 1 [.int .i64 x] rfl rfl ?_ one_int ?_ ?_ ?_ ?_)
              rotate_left
              · (unfold maxLen; simp) <;> omega
              · simp <;> omega
              · simp <;> omega
              rotate_left
              · exact one_new wr _ _
              intro v' w' hown' hgrow _
              have HL := Lib.hid (HF.out.step HS2.out (show IOwn w' w4.heap.size v' ((measL (m : Int) t).take 0 ++ [x]) from by simpa [IOwn] using hown') (grown_after (w := wr) ((Below.refl _ wr).alloc (Nat.le_refl _) _) hgrow))
              clear hown' hgrow hown hi hz0 hz1 hz2
              go_wp2_with fail
              go_roundw
              case rel => exact ⟨0 + 1, by first | rfl | go_num, by omega, HL⟩
              case measure => simp [intOf]; omega
            · simp only [Nat.reducePow] at hp hcx
              have hp' : ((t.length : Nat) : Int) ≤ 16 := by omega
              go_wp2_with (at_builtin; refine wpList_append_own _ rfl _ _ 23 rfl w4.heap.size 3 i0 (.int .i64 0) 1 8 Try.underlying23 hi hz0 hz1 hz2 rfl (by decide) _ _ _ rfl hown.out ⟨wr.heap.size, 0, none⟩ 1 1 [.int .i64 x] rfl rfl ?_ one_int ?_ ?_ ?_ ?_)
              rotate_left
              · (unfold maxLen; simp) <;> omega
              · simp <;> omega
              · simp <;> omega
              rotate_left
              · exact one_new wr _ _
              intro v' w' hown' hgrow _
              have HL := Lib.hid (HF.out.step HS2.out (show IOwn w' w4.heap.size v' ((measL (m : Int) t).take 1 ++ [x]) from by simpa [IOwn] using hown') (grown_after (w := wr) ((Below.refl _ wr).alloc (Nat.le_refl _) _) hgrow))
              clear hown' hgrow hown hi hz0 hz1 hz2
              go_wp2_with fail
              go_roundw
              case rel => exact ⟨1 + 1, by first | rfl | go_num, by omega, HL⟩
              case measure => simp [intOf]; omega
            · simp only [Nat.reducePow] at hp hcx
              have hp' : ((t.length : Nat) : Int) ≤ 16 := by omega
              go_wp2_with (at_builtin; refine wpList_append_own _ rfl _ _ 23 rfl w4.heap.size 3 i0 (.int .i64 0) 1 8 Try.underlying23 hi hz0 hz1 hz2 rfl (by decide) _ _ _ rfl hown.out ⟨wr.heap.size, 0, none⟩ 1 1 [.int .i64 x] rfl rfl ?_ one_int ?_ ?_ ?_ ?_)
              rotate_left
              · (unfold maxLen; simp) <;> omega
              · simp <;> omega
              · simp <;> omega
              rotate_left
              · exact one_new wr _ _
              intro v' w' hown' hgrow _
              have HL := Lib.hid (HF.out.step HS2.out (show IOwn w' w4.heap.size v' ((measL (m : Int) t).take 2 ++ [x]) from by simpa [IOwn] using hown') (grown_after (w := wr) ((Below.refl _ wr).alloc (Nat.le_refl _) _) hgrow))
              clear hown' hgrow hown hi hz0 hz1 hz2
              go_wp2_with fail
              go_roundw
              case rel => exact ⟨2 + 1, by first | rfl | go_num, by omega, HL⟩
              case measure => simp [intOf]; omega
            · simp only [Nat.reducePow] at hp hcx
              have hp' : ((t.length : Nat) : Int) ≤ 16 := by omega
              go_wp2_with (at_builtin; refine wpList_append_own _ rfl _ _ 23 rfl w4.heap.size 3 i0 (.int .i64 0) 1 8 Try.underlying23 hi hz0 hz1 hz2 rfl (by decide) _ _ _ rfl hown.out ⟨wr.heap.size, 0, none⟩ 1 1 [.int .i64 x] rfl rfl ?_ one_int ?_ ?_ ?_ ?_)
              rotate_left
              · (unfold maxLen; simp) <;> omega
              · simp <;> omega
              · simp <;> omega
              rotate_left
              · exact one_new wr _ _
              intro v' w' hown' hgrow _
              have HL := Lib.hid (HF.out.step HS2.out (show IOwn w' w4.heap.size v' ((measL (m : Int) t).take 3 ++ [x]) from by simpa [IOwn] using hown') (grown_after (w := wr) ((Below.refl _ wr).alloc (Nat.le_refl _) _) hgrow))
              clear hown' hgrow hown hi hz0 hz1 hz2
              go_wp2_with fail
              go_roundw
              case rel => exact ⟨3 + 1, by first | rfl | go_num, by omega, HL⟩
              case measure => simp [intOf]; omega
          · obtain ⟨o1, b1⟩ := HF.out.all (by rw [HZ.out]; omega)
            have B1 := Lib.hid (below_step HB4.out b1 HB4.out.size)
            have O1 := Lib.hid o1
            have HV3 := Lib.hid (HV2.out wr b1)
            clear b1 o1 HB4
            go_wp2_with fail
            refine (implTableOf_any _ _ _ O1.out.rd).mono ?_
            rintro e w6 ⟨v6, rfl, o6, b6⟩
            have O6 := Lib.hid o6
            have HV6 := Lib.hid (HV3.out.keep (SameAt.of_below b6))
            have B6 := Lib.hid (below_step B1.out b6 B1.out.size)
            clear o6 b6
            go_wp2_with fail
            refine (sameInts_any _ _ _ _ _ O6.out.rd HV6.out).mono ?_
            rintro e w7 ⟨q7, rfl, rfl⟩
            rw [HS.out]
            have B7 := Lib.hid (below_drewN B6.out q7)
            go_wp2_with fail
            go_ret
            exact ⟨ret_bool (by simp), B7.out⟩
    · have HT := Lib.hid h
      have HA := Lib.hid (add_no1 h)
      clear h
      go_wp2_with fail
      refine (implAdditiveOk_any w1 _ vt t (ovt1.rd)).mono ?_
      rintro e w2 ⟨rfl, b2⟩
      rw [HA.out]
      have z2 := b2.size
      have B2 := below_step B1 b2 (by omega)
      have ovt2 := ovt1.keep (SameAt.of_below b2)
      clear B1 b2 ovt1
      go_wp2_with fail
      refine (specAdditiveOk_any w2 _ vt t (ovt2.rd)).mono ?_
      rintro e w3 ⟨rfl, b3⟩
      rw [HA.out]
      have z3 := b3.size
      have B3 := below_step B2 b3 (by omega)
      have ovt3 := ovt2.keep (SameAt.of_below b3)
      clear B2 b3 ovt2
      go_wp2_with fail
      refine (specTableOk_any _ _ _ _ (ovt3.rd)).mono ?_
      rintro e w' ⟨rfl, rfl⟩
      rw [HT.out]
      go_wp2_with fail
      refine (alive_any _).mono ?_
      rintro e w' ⟨rfl, rfl⟩
      go_wp2_with fail
      go_ret
      exact ⟨ret_bool (by simp), B3⟩

end Go.Proofs.Ytempdaodmjiloaa
