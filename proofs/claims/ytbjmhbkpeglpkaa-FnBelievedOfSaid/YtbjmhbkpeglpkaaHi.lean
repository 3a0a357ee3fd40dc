/- The walk of the law of BelievedOf. Conditions: rows of bytes that came in. (gen_fh.py) -/
import Derived.Test.YtbjmhbkpeglpkaaHp
import Derived.Test.YtbjmhbkpeglpkaaHf
import Derived.Test.YtbjmhbkpeglpkaaEv2
namespace Go.Proofs.Ytbjmhbkpeglpkaa
open Go.RowKit
set_option linter.unusedVariables false

set_option maxRecDepth 100000 in
set_option maxHeartbeats 8000000 in
theorem FnBelievedOf_walk (a0 : Option Addr) (len0 cap0 : Nat) (z0 : List Int) (w : World) (w0 : IsRowC .u8 w a0 len0 cap0 z0) :
    Calls Try.prog 8 #[.slice a0 len0 cap0] w fun e w' => e = .returned (.bool true) ∧ Below w.heap.size w w' := by
  by_cases hlen : 1048576 < len0
  · clear w0
    go_enter Try.func8, Try.ntmps8
    go_wp2
    go_ret
    exact ⟨rfl, Below.refl _ _⟩
  · have hlen' : decide (1048576 < len0) = false := by simpa using hlen
    go_enter Try.func8, Try.ntmps8
    go_wp2_with fail
    refine (drawBelievedOf_any _ _ _ _ _ w0).mono ?_
    rintro e w1 ⟨v, xs, x, rfl, ov, hl4, B1⟩
    have HB1 := Lib.hid B1
    have ord := ov.rd
    obtain ⟨A, c, rfl, hl, hmx, -⟩ := id ord
    have HV : Hid (∀ wr, Below w1.heap.size w1 wr → IRd wr (.slice A xs.length c) xs) := Lib.hid (fun wr hb => ord.keep (SameAt.of_below hb))
    clear ord ov B1 w0
    rcases Bool.eq_false_or_eq_true (belB xs x) with h | h
    · obtain ⟨h1, h2⟩ := (belB_iff xs x).1 h
      obtain ⟨k1, k2⟩ := bel_not h
      obtain ⟨r1, r2, r3⟩ := bel_red h
      obtain ⟨a1, a2, a3⟩ := bel_all h1
      obtain ⟨g1, -, -, -, s1, s2, s3, s4⟩ := bel_scale h
      obtain ⟨g2, -, -, -, t1, t2, t3, t4⟩ := bel_scale k1
      have h4 := ((wgtB_iff xs).1 h1).2.1
      have HR : Hid (redR xs = redL xs) := Lib.hid (by rw [redR, if_pos h1])
      have HRL := Lib.hid (red_len xs)
      have HALL : Hid (wrap64 (wrap64 ((2 : Int) ^ xs.length) - 1) = allI (xs.length : Int)) := Lib.hid (by
        obtain e | e | e | e : xs.length = 1 ∨ xs.length = 2 ∨ xs.length = 3 ∨ xs.length = 4 := by omega
        all_goals (rw [e]; decide +kernel))
      obtain ⟨p, hp⟩ : ∃ p, belN xs x = p := ⟨_, rfl⟩
      obtain ⟨d, hd⟩ : ∃ d, belD xs x = d := ⟨_, rfl⟩
      obtain ⟨p2, hp2⟩ : ∃ p2, belN xs (notI (xs.length : Int) x) = p2 := ⟨_, rfl⟩
      obtain ⟨d2, hd2⟩ : ∃ d2, belD xs (notI (xs.length : Int) x) = d2 := ⟨_, rfl⟩
      rw [hp] at r2
      rw [hd] at r3
      rw [hp, hd, hp2, hd2] at k2
      rw [hp] at s1 s3
      rw [hd] at s2 s4
      rw [hp2] at t1 t3
      rw [hd2] at t2 t4
      have HB := Lib.hid h
      have HN := Lib.hid hp
      have HD := Lib.hid hd
      have HB2 := Lib.hid k1
      have HN2 := Lib.hid hp2
      have HD2 := Lib.hid hd2
      have HB3 := Lib.hid r1
      have HN3 := Lib.hid r2
      have HD3 := Lib.hid r3
      have HB4 := Lib.hid a1
      have HN4 := Lib.hid a2
      have HD4 := Lib.hid a3
      have b1 : 0 ≤ p * d2 ∧ p * d2 ≤ 4000000 * 4000000 := ⟨Int.mul_nonneg s1 (by omega), Int.mul_le_mul s3 t4 (by omega) (by omega)⟩
      have b2 : 0 ≤ p2 * d ∧ p2 * d ≤ 4000000 * 4000000 := ⟨Int.mul_nonneg t1 (by omega), Int.mul_le_mul t3 s4 (by omega) (by omega)⟩
      have b3 : 0 ≤ d * d2 ∧ d * d2 ≤ 4000000 * 4000000 := ⟨Int.mul_nonneg (by omega) (by omega), Int.mul_le_mul s4 t4 (by omega) (by omega)⟩
      obtain ⟨m1, hm1⟩ : ∃ m, p * d2 = m := ⟨_, rfl⟩
      obtain ⟨m2, hm2⟩ : ∃ m, p2 * d = m := ⟨_, rfl⟩
      obtain ⟨m3, hm3⟩ : ∃ m, d * d2 = m := ⟨_, rfl⟩
      rw [hm1] at b1 k2
      rw [hm2] at b2 k2
      rw [hm3] at b3 k2
      have q1 : IntKind.i64.wrap (p * d2) = m1 := by rw [hm1]; exact IntWalk.i64_in _ (by omega)
      have q2 : IntKind.i64.wrap (p2 * d) = m2 := by rw [hm2]; exact IntWalk.i64_in _ (by omega)
      have q3 : IntKind.i64.wrap (d * d2) = m3 := by rw [hm3]; exact IntWalk.i64_in _ (by omega)
      have q4 : IntKind.i64.wrap (m1 + m2) = m3 := by rw [k2]; exact IntWalk.i64_in _ (by omega)
      clear h h1 h2 k1 k2 r1 r2 r3 a1 a2 a3 hp hd hp2 hd2 hm1 hm2 hm3 b1 b2 b3
      have C1 := Lib.hid (Below.refl w1.heap.size w1)
      go_wp2_with fail
      refine (implBelievedOf_any w1 _ xs x (HV.out w1 C1.out)).mono ?_
      rintro e w2 ⟨rfl, b2⟩
      rw [HN.out, HD.out, HB.out]
      have C2 := Lib.hid (below_step C1.out b2 C1.out.size)
      clear b2
      go_wp2_with fail
      refine (specBelievedOf_any w2 _ xs x (HV.out w2 C2.out)).mono ?_
      rintro e w3 ⟨rfl, b3⟩
      rw [HN.out, HD.out, HB.out]
      have C3 := Lib.hid (below_step C2.out b3 C2.out.size)
      clear b3
      go_wp2_with fail
      refine (implNotEvent_any _ x _).mono ?_
      rintro e w' ⟨rfl, rfl⟩

      go_wp2_with fail
      refine (implBelievedOf_any w3 _ xs _ (HV.out w3 C3.out)).mono ?_
      rintro e w4 ⟨rfl, b4⟩
      rw [HN2.out, HD2.out, HB2.out]
      have C4 := Lib.hid (below_step C3.out b4 C3.out.size)
      clear b4
      go_wp2_with fail
      refine (implReducedWeights_any w4 _ xs (HV.out w4 C4.out)).mono ?_
      rintro e w5 ⟨vr, rfl, oo, b5⟩
      rw [HR.out] at oo
      have C5 := Lib.hid (below_step C4.out b5 C4.out.size)
      obtain ⟨A5, c5, rfl, hl5, hmx5, -⟩ := id oo.rd
      have HO := Lib.hid oo.rd
      clear oo b5
      go_wp2_with fail
      refine (implBelievedOf_any w5 _ (redL xs) x HO.out).mono ?_
      rintro e w6 ⟨rfl, b6⟩
      rw [HN3.out, HD3.out, HB3.out]
      have C6 := Lib.hid (below_step C5.out b6 C5.out.size)
      clear b6
      go_wp2_with fail
      refine (implBelievedOf_any w6 _ xs _ (HV.out w6 C6.out)).mono ?_
      rintro e w7 ⟨rfl, b7⟩
      rw [HALL.out, HN4.out, HD4.out, HB4.out]
      have C7 := Lib.hid (below_step C6.out b7 C6.out.size)
      clear b7
      go_wp2_with fail
      go_ret
      exact ⟨rfl, below_step HB1.out C7.out HB1.out.size⟩
    · obtain ⟨n1, n2⟩ := bel_no h
      have HB := Lib.hid h
      have HN := Lib.hid n1
      have HD := Lib.hid n2
      clear h n1 n2
      have C1 := Lib.hid (Below.refl w1.heap.size w1)
      go_wp2_with fail
      refine (implBelievedOf_any w1 _ xs x (HV.out w1 C1.out)).mono ?_
      rintro e w2 ⟨rfl, b2⟩
      rw [HN.out, HD.out, HB.out]
      have C2 := Lib.hid (below_step C1.out b2 C1.out.size)
      clear b2
      go_wp2_with fail
      refine (specBelievedOf_any w2 _ xs x (HV.out w2 C2.out)).mono ?_
      rintro e w3 ⟨rfl, b3⟩
      rw [HN.out, HD.out, HB.out]
      have C3 := Lib.hid (below_step C2.out b3 C2.out.size)
      clear b3
      go_wp2_with fail
      refine (alive_any _).mono ?_
      rintro e w' ⟨rfl, rfl⟩

      go_wp2_with fail
      go_ret
      exact ⟨rfl, below_step HB1.out C3.out HB1.out.size⟩

end Go.Proofs.Ytbjmhbkpeglpkaa
