/- The walk of the law of LearnEvent. Conditions: rows of bytes that came in. (gen_fh.py) -/
import Derived.Test.YtbjmhbkpeglpkaaHk
import Derived.Test.YtbjmhbkpeglpkaaWe
import Derived.Test.YtbjmhbkpeglpkaaWp
namespace Go.Proofs.Ytbjmhbkpeglpkaa
open Go.RowKit
set_option linter.unusedVariables false

theorem bits_01 (e : Int) (k : Nat) : 0 ≤ bitI e k ∧ bitI e k ≤ 1 := by
  rcases bitI_01 e k with h | h <;> omega

set_option maxRecDepth 100000 in
set_option maxHeartbeats 8000000 in
theorem FnLearnEvent_walk (a0 : Option Addr) (len0 cap0 : Nat) (z0 : List Int) (w : World) (w0 : IsRowC .u8 w a0 len0 cap0 z0) :
    Calls Try.prog 9 #[.slice a0 len0 cap0] w fun e w' => e = .returned (.bool true) ∧ Below w.heap.size w w' := by
  by_cases hlen : 1048576 < len0
  · clear w0
    go_enter Try.func9, Try.ntmps9
    go_wp2
    go_ret
    exact ⟨rfl, Below.refl _ _⟩
  · have hlen' : decide (1048576 < len0) = false := by simpa using hlen
    go_enter Try.func9, Try.ntmps9
    go_wp2_with fail
    refine (drawAfterEvent_any _ _ _ _ _ w0).mono ?_
    rintro e w1 ⟨v, xs, x, rfl, ov, hl4, -, x0, x15, B1⟩
    have HB1 := Lib.hid B1
    have ord := ov.rd
    obtain ⟨A, c, rfl, hl, hmx, -⟩ := id ord
    have HV : Hid (∀ wr, Below w1.heap.size w1 wr → IRd wr (.slice A xs.length c) xs) := Lib.hid (fun wr hb => ord.keep (SameAt.of_below hb))
    have C1 := Lib.hid (Below.refl w1.heap.size w1)
    clear ov B1 w0 ord
    rcases Bool.eq_false_or_eq_true (meaB xs) with hm | hm
    · rcases Bool.eq_false_or_eq_true (evB (xs.length : Int) x) with he | he
      · obtain ⟨l1, l2, l3, l4⟩ := learn_event hm he
        have HM := Lib.hid hm
        have HE := Lib.hid he
        have HLB := Lib.hid l1
        have HLR := Lib.hid l2
        have HGB := Lib.hid l3
        have HL4 := Lib.hid l4
        clear hm he l1 l2 l3 l4
        go_wp2_with fail
        refine (specMeasureOk_any w1 _ xs (HV.out w1 C1.out)).mono ?_
        rintro e w' ⟨rfl, rfl⟩
        rw [HM.out]
        go_wp2_with fail
        refine (specEventOk_any _ x _).mono ?_
        rintro e w' ⟨rfl, rfl⟩
        rw [HE.out]
        have H0 : Hid (App12 w1 (bitsL xs.length x) 0 (.slice (some ⟨w1.heap.size, 0, none⟩) 0 0) (w1.alloc (.cells #[] 3))) := Lib.hid (app12_start w1 _)
        go_wp2_with fail
        go_loopw [5, 6] (fun p i wr => ∃ k : Nat, i = .int .i64 (k : Int) ∧ k ≤ xs.length ∧ Hid (App12 w1 (bitsL xs.length x) k p wr)) (fun _ i _ => xs.length - (intOf i).toNat)
        case atStart => exact ⟨0, rfl, Nat.zero_le _, H0⟩
        case round =>
          obtain ⟨k, rfl, hk, HF⟩ := hrel
          obtain ⟨g0, c0, rfl⟩ := HF.out.2
          clear H0
          by_cases hlt : k < xs.length
          · have hlt' : (k : Int) < (xs.length : Int) := by omega
            have hlk : Hid (((bitsL xs.length x).take k).length = k) := Lib.hid (by rw [List.length_take, bits_len]; omega)
            obtain ⟨b, hb⟩ : ∃ b, bitI x k = b := ⟨_, rfl⟩
            have HAT : Hid ((bitsL xs.length x)[k]? = some b) := Lib.hid (by rw [bits_at hlt, hb])
            have b01 := bits_01 x k
            rw [hb] at b01
            obtain rfl | rfl | rfl | rfl : k = 0 ∨ k = 1 ∨ k = 2 ∨ k = 3 := by omega
            · have hbit : x % 2 = b := by rw [← hb]; simp [bitI]
              clear hb
              go_wp2_with (at_builtin; refine wp_app12 rfl _ _ rfl _ w1.heap.size _ _ 0 hlk.out b (by rfl) HF.out.1.1 (by rfl) (by omega) HF.out.1.2.size ?_)
              intro g c2 w' hown' hgrow
              have HL := Lib.hid (HF.out.step HAT.out hown' hgrow)
              clear hown' hgrow
              go_wp2_with fail
              go_roundw
              case rel => exact ⟨0 + 1, by first | rfl | go_num, by omega, HL⟩
              case measure => simp [intOf]; omega
            · have hbit : x / 2 % 2 = b := by rw [← hb]; simp [bitI]
              clear hb
              go_wp2_with (at_builtin; refine wp_app12 rfl _ _ rfl _ w1.heap.size _ _ 1 hlk.out b (by rfl) HF.out.1.1 (by rfl) (by omega) HF.out.1.2.size ?_)
              intro g c2 w' hown' hgrow
              have HL := Lib.hid (HF.out.step HAT.out hown' hgrow)
              clear hown' hgrow
              go_wp2_with fail
              go_roundw
              case rel => exact ⟨1 + 1, by first | rfl | go_num, by omega, HL⟩
              case measure => simp [intOf]; omega
            · have hbit : x / 4 % 2 = b := by rw [← hb]; simp [bitI]
              clear hb
              go_wp2_with (at_builtin; refine wp_app12 rfl _ _ rfl _ w1.heap.size _ _ 2 hlk.out b (by rfl) HF.out.1.1 (by rfl) (by omega) HF.out.1.2.size ?_)
              intro g c2 w' hown' hgrow
              have HL := Lib.hid (HF.out.step HAT.out hown' hgrow)
              clear hown' hgrow
              go_wp2_with fail
              go_roundw
              case rel => exact ⟨2 + 1, by first | rfl | go_num, by omega, HL⟩
              case measure => simp [intOf]; omega
            · have hbit : x / 8 % 2 = b := by rw [← hb]; simp [bitI]
              clear hb
              go_wp2_with (at_builtin; refine wp_app12 rfl _ _ rfl _ w1.heap.size _ _ 3 hlk.out b (by rfl) HF.out.1.1 (by rfl) (by omega) HF.out.1.2.size ?_)
              intro g c2 w' hown' hgrow
              have HL := Lib.hid (HF.out.step HAT.out hown' hgrow)
              clear hown' hgrow
              go_wp2_with fail
              go_roundw
              case rel => exact ⟨3 + 1, by first | rfl | go_num, by omega, HL⟩
              case measure => simp [intOf]; omega
          · obtain rfl : k = xs.length := by omega
            obtain ⟨o1, b1⟩ := HF.out.1.all (by rw [bits_len]; exact Nat.le_refl _)
            have O1 := Lib.hid o1
            have C3 := Lib.hid b1
            generalize wr = w3 at *
            clear o1 b1 HF
            rcases Bool.eq_false_or_eq_true (aftB xs x) with ht | ht
            · have HTB := Lib.hid ht
              obtain ⟨e1, e2, e3⟩ := HL4.out ht
              obtain ⟨p, hp⟩ : ∃ p, givN xs 1 x = p := ⟨_, rfl⟩
              obtain ⟨d, hd⟩ : ∃ d, givD xs 1 x = d := ⟨_, rfl⟩
              obtain ⟨y, hy⟩ : ∃ y, aftR xs x = y := ⟨_, rfl⟩
              rw [hp, hy] at e2
              rw [hd, hy] at e3
              rw [hy] at e1
              have HGN := Lib.hid hp
              have HGD := Lib.hid hd
              have HY := Lib.hid hy
              have HBB := Lib.hid e1
              have HBN := Lib.hid e2
              have HBD := Lib.hid e3
              clear ht e1 e2 e3 hp hd hy
              go_wp2_with fail
              refine (implLearnedFrom_any w3 _ _ xs (bitsL xs.length x) (HV.out w3 C3.out) O1.out.rd).mono ?_
              rintro e w4 ⟨vx, rfl, ovx, b4⟩
              rw [HLB.out, HTB.out]
              rw [HLR.out, HY.out] at ovx
              have C4 := Lib.hid (below_step C3.out b4 C3.out.size)
              have S4 := Lib.hid b4
              obtain ⟨Avx, cvx, rfl, -, -, -⟩ := id ovx.rd
              have Hvx : Hid (∀ wr, Below w4.heap.size w4 wr → IRd wr (.slice Avx y.length cvx) y) := Lib.hid (fun wr hb => ovx.rd.keep (SameAt.of_below hb))
              clear ovx b4
              go_wp2_with fail
              refine (implAfterEvent_any w4 _ xs x (HV.out w4 C4.out)).mono ?_
              rintro e w5 ⟨vy, rfl, ovy, b5⟩
              rw [HTB.out]
              rw [HY.out] at ovy
              have C5 := Lib.hid (below_step C4.out b5 C4.out.size)
              have S5 := Lib.hid b5
              obtain ⟨Avy, cvy, rfl, -, -, -⟩ := id ovy.rd
              have Hvy : Hid (∀ wr, Below w5.heap.size w5 wr → IRd wr (.slice Avy y.length cvy) y) := Lib.hid (fun wr hb => ovy.rd.keep (SameAt.of_below hb))
              clear ovy b5
              go_wp2_with fail
              refine (implGivenBy_any w5 _ xs 1 x (HV.out w5 C5.out)).mono ?_
              rintro e w6 ⟨rfl, b6⟩
              rw [HGN.out, HGD.out, HGB.out, HTB.out]
              have C6 := Lib.hid (below_step C5.out b6 C5.out.size)
              have E6 := Lib.hid b6
              have D6 := Lib.hid (below_step S5.out b6 S5.out.size)
              clear b6
              go_wp2_with fail
              refine (implBelievedOf_any w6 _ y 1 (Hvx.out w6 D6.out)).mono ?_
              rintro e w7 ⟨rfl, b7⟩
              rw [HBN.out, HBD.out, HBB.out]
              have C7 := Lib.hid (below_step C6.out b7 C6.out.size)
              have E7 := Lib.hid (below_step E6.out b7 E6.out.size)
              have D7 := Lib.hid (below_step D6.out b7 D6.out.size)
              clear b7
              go_wp2_with fail
              refine (sameInts_any w7 _ _ _ _ (Hvx.out w7 D7.out) (Hvy.out w7 E7.out)).mono ?_
              rintro e w8 ⟨q8, rfl, hw8⟩
              rw [decide_self]
              have C8 : Hid (Below w1.heap.size w1 w8) := Lib.hid (by rw [hw8]; exact below_drewN C7.out q8)
              clear hw8
              go_wp2_with fail
              go_ret
              exact ⟨rfl, below_step HB1.out C8.out HB1.out.size⟩
            · have HTB := Lib.hid ht
              obtain ⟨p, hp⟩ : ∃ p, givN xs 1 x = p := ⟨_, rfl⟩
              obtain ⟨d, hd⟩ : ∃ d, givD xs 1 x = d := ⟨_, rfl⟩
              obtain ⟨y, hy⟩ : ∃ y, aftR xs x = y := ⟨_, rfl⟩
              obtain ⟨p2, hp2⟩ : ∃ p2, belN y 1 = p2 := ⟨_, rfl⟩
              obtain ⟨d2, hd2⟩ : ∃ d2, belD y 1 = d2 := ⟨_, rfl⟩
              obtain ⟨t2, ht2⟩ : ∃ t2, belB y 1 = t2 := ⟨_, rfl⟩
              have HGN := Lib.hid hp
              have HGD := Lib.hid hd
              have HY := Lib.hid hy
              have HBB := Lib.hid ht2
              have HBN := Lib.hid hp2
              have HBD := Lib.hid hd2
              clear ht hp hd hy hp2 hd2 ht2
              go_wp2_with fail
              refine (implLearnedFrom_any w3 _ _ xs (bitsL xs.length x) (HV.out w3 C3.out) O1.out.rd).mono ?_
              rintro e w4 ⟨vx, rfl, ovx, b4⟩
              rw [HLB.out, HTB.out]
              rw [HLR.out, HY.out] at ovx
              have C4 := Lib.hid (below_step C3.out b4 C3.out.size)
              have S4 := Lib.hid b4
              obtain ⟨Avx, cvx, rfl, -, -, -⟩ := id ovx.rd
              have Hvx : Hid (∀ wr, Below w4.heap.size w4 wr → IRd wr (.slice Avx y.length cvx) y) := Lib.hid (fun wr hb => ovx.rd.keep (SameAt.of_below hb))
              clear ovx b4
              go_wp2_with fail
              refine (implAfterEvent_any w4 _ xs x (HV.out w4 C4.out)).mono ?_
              rintro e w5 ⟨vy, rfl, ovy, b5⟩
              rw [HTB.out]
              rw [HY.out] at ovy
              have C5 := Lib.hid (below_step C4.out b5 C4.out.size)
              have S5 := Lib.hid b5
              obtain ⟨Avy, cvy, rfl, -, -, -⟩ := id ovy.rd
              have Hvy : Hid (∀ wr, Below w5.heap.size w5 wr → IRd wr (.slice Avy y.length cvy) y) := Lib.hid (fun wr hb => ovy.rd.keep (SameAt.of_below hb))
              clear ovy b5
              go_wp2_with fail
              refine (implGivenBy_any w5 _ xs 1 x (HV.out w5 C5.out)).mono ?_
              rintro e w6 ⟨rfl, b6⟩
              rw [HGN.out, HGD.out, HGB.out, HTB.out]
              have C6 := Lib.hid (below_step C5.out b6 C5.out.size)
              have E6 := Lib.hid b6
              have D6 := Lib.hid (below_step S5.out b6 S5.out.size)
              clear b6
              go_wp2_with fail
              refine (implBelievedOf_any w6 _ y 1 (Hvx.out w6 D6.out)).mono ?_
              rintro e w7 ⟨rfl, b7⟩
              rw [HBN.out, HBD.out, HBB.out]
              have C7 := Lib.hid (below_step C6.out b7 C6.out.size)
              have E7 := Lib.hid (below_step E6.out b7 E6.out.size)
              have D7 := Lib.hid (below_step D6.out b7 D6.out.size)
              clear b7
              go_wp2_with fail
              refine (sameInts_any w7 _ _ _ _ (Hvx.out w7 D7.out) (Hvy.out w7 E7.out)).mono ?_
              rintro e w8 ⟨q8, rfl, hw8⟩
              rw [decide_self]
              have C8 : Hid (Below w1.heap.size w1 w8) := Lib.hid (by rw [hw8]; exact below_drewN C7.out q8)
              clear hw8
              go_wp2_with fail
              go_ret
              exact ⟨rfl, below_step HB1.out C8.out HB1.out.size⟩
      · have HM := Lib.hid hm
        have HE := Lib.hid he
        clear hm he
        go_wp2_with fail
        refine (specMeasureOk_any w1 _ xs (HV.out w1 C1.out)).mono ?_
        rintro e w' ⟨rfl, rfl⟩
        rw [HM.out]
        go_wp2_with fail
        refine (specEventOk_any _ x _).mono ?_
        rintro e w' ⟨rfl, rfl⟩
        rw [HE.out]
        go_wp2_with fail
        refine (alive_any _).mono ?_
        rintro e w' ⟨rfl, rfl⟩
        go_wp2_with fail
        go_ret
        exact ⟨rfl, HB1.out⟩
    · have HM := Lib.hid hm
      clear hm
      go_wp2_with fail
      refine (specMeasureOk_any w1 _ xs (HV.out w1 C1.out)).mono ?_
      rintro e w' ⟨rfl, rfl⟩
      rw [HM.out]
      go_wp2_with fail
      refine (alive_any _).mono ?_
      rintro e w' ⟨rfl, rfl⟩
      go_wp2_with fail
      go_ret
      exact ⟨rfl, HB1.out⟩

end Go.Proofs.Ytbjmhbkpeglpkaa
