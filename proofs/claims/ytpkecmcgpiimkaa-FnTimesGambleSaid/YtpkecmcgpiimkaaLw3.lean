/- The walks of the laws of GambleOk, WorstOf, LosesOk. Conditions: a row of bytes that came in. -/
import Derived.Test.YtpkecmcgpiimkaaLw2
namespace Go.Proofs.Ytpkecmcgpiimkaa
open Go.RowKit
set_option linter.unusedVariables false

def negL (xs : List Int) : List Int := xs.map fun x => -x

theorem negL_len (xs : List Int) : (negL xs).length = xs.length := by simp [negL]

theorem negL_at {xs : List Int} {k : Nat} {x : Int} (hx : xs[k]? = some x) : (negL xs)[k]? = some (-x) := by simp [negL, hx]

theorem gok_zero : gokB [0] = true := by decide

theorem gok_nil : gokB [] = false := by decide

set_option maxHeartbeats 4000000 in
theorem FnGambleOk_walk (a0 : Option Addr) (len0 cap0 : Nat) (z0 : List Int) (w : World) (w0 : IsRowC .u8 w a0 len0 cap0 z0) :
    Calls Try.prog 3 #[.slice a0 len0 cap0] w fun e w' => e = .returned (.bool true) ∧ Below w.heap.size w w' := by
  by_cases hlen : 1048576 < len0
  · clear w0
    go_enter Try.func3, Try.ntmps3
    go_wp2
    go_ret
    exact ⟨rfl, Below.refl _ _⟩
  · have hlen' : decide (1048576 < len0) = false := by simpa using hlen
    obtain ⟨i0, hi, hz0, hz1, hz2⟩ := info_parts Try_intinfo
    go_enter Try.func3, Try.ntmps3
    go_wp2_with fail
    refine (drawGambleOk_any _ _ _ _ _ w0).mono ?_
    rintro e w1 ⟨v, xs, rfl, og, hx8, hxa, b1⟩
    clear hlen hlen' w0
    have HG := Lib.hid og
    have HA := Lib.hid hxa
    have B1 := Lib.hid b1
    have HZ := Lib.hid (negL_len xs)
    have H0 : Hid (AppRel w1 (negL xs) 0 (.slice (some ⟨w1.heap.size, 0, none⟩) 0 0) (w1.alloc (.cells #[] 3))) := Lib.hid (app_start w1 (negL xs))
    clear og hxa b1
    obtain ⟨t, ht⟩ : ∃ t, gokB xs = t := ⟨_, rfl⟩
    have HT := Lib.hid ht
    have HN : Hid (gokB (negL xs) = t) := Lib.hid (neg_gok.trans ht)
    clear ht
    obtain ⟨A, c, rfl, hlc, hm, -⟩ := id HG.out.rd
    go_wp2_with fail
    refine (implGambleOk_any _ _ _ HG.out.rd).mono ?_
    rintro e w' ⟨rfl, rfl⟩
    rw [HT.out]
    go_wp2_with fail
    refine (specGambleOk_any _ _ _ HG.out.rd).mono ?_
    rintro e w' ⟨rfl, rfl⟩
    rw [HT.out]
    go_wp2_with fail
    go_loopw [5, 6] (fun p i wr => ∃ k : Nat, i = .int .i64 k ∧ k ≤ xs.length ∧ Hid (AppRel w1 (negL xs) k p wr)) (fun _ i _ => xs.length - (intOf i).toNat)
    case atStart => exact ⟨0, rfl, Nat.zero_le _, H0⟩
    case round =>
      obtain ⟨k, rfl, hk, HF⟩ := hrel
      clear H0
      by_cases hlt : k < xs.length
      · obtain ⟨b, off, x, rfl, -, hx, hcx⟩ := (HG.out.rd.keep (SameAt.of_below HF.out.2)).at_ hlt
        obtain ⟨hx1, hx2⟩ := HA.out.at_ hx
        have HS := Lib.hid (negL_at hx)
        have hown0 := HF.out.1
        unfold IOwn at hown0
        have hown := Lib.hid (World.ownsRow.alloc (w := wr) hown0 (.cells #[.int .i64 (-x)] 3))
        have hsz := HF.out.2.size
        clear hx hown0
        go_wp2_with (at_builtin; refine wpList_append_own _ rfl _ _ 23 rfl w1.heap.size 3 i0 (.int .i64 0) 1 8 Try.underlying23 hi hz0 hz1 hz2 rfl (by decide) _ _ _ rfl hown.out ⟨wr.heap.size, 0, none⟩ 1 1 [.int .i64 (-x)] rfl rfl ?c1 one_int ?c3 ?c4 ?c5 ?_)
        case c1 => exact one_new wr _ _
        case c3 => unfold maxLen; simp; omega
        case c4 => simp; omega
        case c5 => simp; omega
        intro v' w' hown' hgrow _
        have HL := Lib.hid (HF.out.step HS.out (show IOwn w' w1.heap.size v' ((negL xs).take k ++ [-x]) from by simpa [IOwn] using hown') (grown_after (w := wr) ((Below.refl _ wr).alloc (Nat.le_refl _) _) hgrow))
        clear hown' hgrow hown hi hz0 hz1 hz2
        go_wp2_with fail
        go_roundw
        case rel => exact ⟨k + 1, by go_num, by omega, HL⟩
        case measure => simp [intOf]; omega
      · obtain ⟨o1, b2⟩ := HF.out.all (by have := HZ.out; omega)
        have O1 := Lib.hid o1
        have B2 := Lib.hid (below_step B1.out b2 B1.out.size)
        clear o1 b2 HF
        go_wp2_with fail
        refine (implGambleOk_any _ _ [0] (lit_one wr wr.heap.size (Nat.le_refl _) 0).rd).mono ?_
        rintro e w' ⟨rfl, rfl⟩
        rw [gok_zero]
        have B3 := Lib.hid (B2.out.alloc B2.out.size (.cells #[.int .i64 0] 3))
        have O3 := Lib.hid (O1.out.keep (SameAt.grow (w' := wr.alloc (.cells #[.int .i64 0] 3)) rfl))
        clear O1 B2
        generalize wr.alloc (.cells #[.int .i64 0] 3) = w3 at *
        go_wp2_with fail
        refine (implGambleOk_any _ _ [] (lit_own w3 w3.heap.size (Nat.le_refl _)).rd).mono ?_
        rintro e w' ⟨rfl, rfl⟩
        rw [gok_nil]
        have B4 := Lib.hid (B3.out.alloc B3.out.size (.cells #[] 3))
        have O4 := Lib.hid (O3.out.keep (SameAt.grow (w' := w3.alloc (.cells #[] 3)) rfl))
        clear O3 B3
        generalize w3.alloc (.cells #[] 3) = w4 at *
        go_wp2_with fail
        refine (implGambleOk_any _ _ _ O4.out.rd).mono ?_
        rintro e w' ⟨rfl, rfl⟩
        rw [HN.out]
        go_wp2_with fail
        refine (alive_any _).mono ?_
        rintro e w' ⟨rfl, rfl⟩
        go_wp2_with fail
        go_ret
        exact ⟨ret_bool (by simp), B4.out⟩

end Go.Proofs.Ytpkecmcgpiimkaa
