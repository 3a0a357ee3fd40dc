/- Contracts of the program's BringsIn and its helpers. Conditions: a row that reads as a list. -/
import Derived.Test.YtkanfolgppbklaaVa
import Derived.Test.YtkanfolgppbklaaUf
import Derived.Test.YtkanfolgppbklaaQc
namespace Go.Proofs.Ytkanfolgppbklaa
open Go.RowKit
set_option linter.unusedVariables false

set_option maxHeartbeats 2000000 in
theorem betOk_any (q : Bt) (W : World) :
    Calls Try.prog 21 #[bV q] W fun r W' => r = .returned (.bool (okBt q)) ∧ Below W.heap.size W W' := by
  obtain ⟨e, p, s⟩ := q
  unfold bV
  rcases Bool.eq_false_or_eq_true (evB 4 e) with h1 | h1
  · rcases Bool.eq_false_or_eq_true (inB p 0 36) with h2 | h2
    · have HOK : Hid (okBt (e, p, s) = stB s) := Lib.hid (by rw [okBt, h1, h2]; rfl)
      go_enter Try.func21, Try.ntmps21
      go_wp2_with fail
      refine (implEventOk_any _ _ _).mono ?_
      rintro r w' ⟨rfl, rfl⟩
      rw [h1]
      go_wp2_with fail
      refine (grainsOk_any _ _).mono ?_
      rintro r w' ⟨rfl, rfl⟩
      rw [h2]
      go_wp2_with fail
      refine (stakeOk_any _ _).mono ?_
      rintro r w' ⟨rfl, rfl⟩
      go_wp2_with fail
      go_ret
      exact ⟨ret_bool HOK.out.symm, by go_grown⟩
    · have HOK : Hid (okBt (e, p, s) = false) := Lib.hid (by rw [okBt, h1, h2]; rfl)
      go_enter Try.func21, Try.ntmps21
      go_wp2_with fail
      refine (implEventOk_any _ _ _).mono ?_
      rintro r w' ⟨rfl, rfl⟩
      rw [h1]
      go_wp2_with fail
      refine (grainsOk_any _ _).mono ?_
      rintro r w' ⟨rfl, rfl⟩
      rw [h2]
      go_wp2_with fail
      go_ret
      exact ⟨ret_bool HOK.out.symm, by go_grown⟩
  · have HOK : Hid (okBt (e, p, s) = false) := Lib.hid (by rw [okBt, h1]; rfl)
    go_enter Try.func21, Try.ntmps21
    go_wp2_with fail
    refine (implEventOk_any _ _ _).mono ?_
    rintro r w' ⟨rfl, rfl⟩
    rw [h1]
    go_wp2_with fail
    go_ret
    exact ⟨ret_bool HOK.out.symm, by go_grown⟩

theorem betI_yes {k : Nat} {e p s : Int} (h : bitI e k = 1) : betI k (e, p, s) = s * (36 - p) := by
  show s * (bitI e k * 36 - p) = _; rw [h]; rfl

theorem betI_not {k : Nat} {e p s : Int} (h : bitI e k = 0) : betI k (e, p, s) = s * -p := by
  show s * (bitI e k * 36 - p) = _; rw [h, Int.zero_mul, Int.zero_sub]

set_option maxHeartbeats 2000000 in
theorem betBrings_any (q : Bt) (k : Nat) (hk : k < 4) (hq : okBt q = true) (W : World) :
    Calls Try.prog 22 #[bV q, .int .i64 (k : Int)] W fun r W' => r = .returned (.int .i64 (betI k q)) ∧ Below W.heap.size W W' := by
  obtain ⟨e, p, s⟩ := q
  obtain ⟨⟨e1, e2⟩, ⟨p1, p2⟩, s1, s2⟩ : (0 ≤ e ∧ e ≤ 15) ∧ (0 ≤ p ∧ p ≤ 36) ∧ -9 ≤ s ∧ s ≤ 9 := (okBt_iff (e, p, s)).1 hq
  clear hq
  unfold bV
  rcases bitI_01 e k with hb | hb
  · have HB := Lib.hid (betI_not (p := p) (s := s) hb)
    have hbq : (bitI e k == 1) = false := by rw [hb]; rfl
    clear hb
    obtain ⟨z1, z2⟩ := mul_936 (s := s) (d := -p) ⟨s1, s2⟩ (by omega)
    have hq1 : IntKind.i64.wrap (-p) = -p := IntWalk.i64_in _ (by omega)
    have hq2 : IntKind.i64.wrap (s * -p) = s * -p := IntWalk.i64_in _ (by omega)
    go_enter Try.func22, Try.ntmps22
    go_wp2_with fail
    refine (hasQ_any _ _ e1 e2 hk _).mono ?_
    rintro r w' ⟨rfl, rfl⟩
    rw [hbq]
    go_wp2_with fail
    go_ret
    exact ⟨ret_int HB.out.symm, by go_grown⟩
  · have HB := Lib.hid (betI_yes (p := p) (s := s) hb)
    have hbq : (bitI e k == 1) = true := by rw [hb]; rfl
    clear hb
    obtain ⟨z1, z2⟩ := mul_936 (s := s) (d := 36 - p) ⟨s1, s2⟩ (by omega)
    have hq1 : IntKind.i64.wrap (36 - p) = 36 - p := IntWalk.i64_in _ (by omega)
    have hq2 : IntKind.i64.wrap (s * (36 - p)) = s * (36 - p) := IntWalk.i64_in _ (by omega)
    go_enter Try.func22, Try.ntmps22
    go_wp2_with fail
    refine (hasQ_any _ _ e1 e2 hk _).mono ?_
    rintro r w' ⟨rfl, rfl⟩
    rw [hbq]
    go_wp2_with fail
    go_ret
    exact ⟨ret_int HB.out.symm, by go_grown⟩

set_option maxRecDepth 100000 in
set_option maxHeartbeats 8000000 in
theorem implBringsIn_any (w0 : World) (w : Int) (v : Value) (bs : List Bt) (hv : BRd w0 v bs) (hn : bs.length ≤ 1048576) :
    Calls Try.prog 7 #[v, .int .i64 w] w0 (NumPost (bsN bs w) (bsB bs w) w0) := by
  obtain ⟨A, c, rfl, hl, hm⟩ := hv.form
  have HV : Hid (∀ wr, Below w0.heap.size w0 wr → BRd wr (.slice A bs.length c) bs) := Lib.hid (fun wr h => hv.keep (SameAt.of_below h))
  clear hv
  have hn' : (bs.length : Int) ≤ 1048576 := by omega
  have h4 : inB w 0 (4 - 1) = inB w 0 3 := rfl
  rcases (Bool.eq_false_or_eq_true (inB w 0 3)).symm with hin | hin
  · have HT : Hid (bsB bs w = false) := Lib.hid (by rw [bsB, hin, Bool.and_false])
    go_enter Try.func7, Try.ntmps7
    go_wp2_with fail
    refine (isWorld_any _ _ _).mono ?_
    rintro r w' ⟨rfl, rfl⟩
    rw [h4, hin]
    go_wp2_with fail
    go_ret2
    exact numPost_ret (bsN_no HT.out) HT.out (Below.refl _ _)
  have hw03 := (inB_iff _ _ _).1 hin
  obtain ⟨u, rfl⟩ : ∃ u : Nat, w = u := ⟨w.toNat, by omega⟩
  have hu : u < 4 := by omega
  have hu0 : (0 : Int) ≤ (u : Int) := by omega
  have hu4 : (u : Int) < 4 := by omega
  have HIN : Hid (inB (u : Int) 0 3 = true) := Lib.hid hin
  clear hw03
  go_enter Try.func7, Try.ntmps7
  go_wp2_with fail
  refine (isWorld_any _ _ _).mono ?_
  rintro r w' ⟨rfl, rfl⟩
  rw [h4, hin]
  clear h4 hin
  go_wp2_with fail
  go_loopw [6, 14] (fun t i wr => ∃ (k : Nat) (n : Int), i = .int .i64 (k : Int) ∧ k ≤ bs.length ∧ t = .int .i64 n ∧ Hid (n = bsI (bs.take k) u) ∧ Hid ((bs.take k).all okBt = true) ∧ Hid (Below w0.heap.size w0 wr)) (fun _ i _ => bs.length - (intOf i).toNat)
  case atStart => exact ⟨0, 0, rfl, Nat.zero_le _, rfl, Lib.hid (by simp [bsI]), Lib.hid (by simp), Lib.hid (Below.refl _ _)⟩
  case round =>
    obtain ⟨k, n, rfl, hk, rfl, HN, HA, HB⟩ := hrel
    by_cases hlt : k < bs.length
    · obtain ⟨b, off, ⟨e, p, s⟩, rfl, -, hx, hc0, hc1, hc2⟩ := BRd.at_ (HV.out wr HB.out) hlt
      have HX := Lib.hid hx
      clear hx
      dsimp only at hc0 hc1 hc2
      obtain ⟨w6, hw6⟩ : ∃ w6, wr.alloc (.cells #[.int .i64 e, .int .i64 p, .int .i64 s] 30) = w6 := ⟨_, rfl⟩
      have HBX : Hid (∀ w7, Below w6.heap.size w6 w7 → w7.cell? ⟨wr.heap.size, 0, none⟩ = some (.int .i64 e) ∧ w7.cell? ⟨wr.heap.size, 1, none⟩ = some (.int .i64 p) ∧ w7.cell? ⟨wr.heap.size, 2, none⟩ = some (.int .i64 s)) := Lib.hid (by rw [← hw6]; exact fun w7 h7 => box3 (W := wr) (q := (e, p, s)) h7)
      obtain ⟨hb0, hb1, hb2⟩ := HBX.out w6 (Below.refl _ _)
      have HB6 : Hid (Below w0.heap.size w0 w6) := Lib.hid (by rw [← hw6]; exact HB.out.alloc HB.out.size _)
      have HW6 := Lib.hid hw6
      clear hw6
      rcases Bool.eq_false_or_eq_true (okBt (e, p, s)) with h1 | h1
      · have HOK := Lib.hid h1
        obtain ⟨n1, n2⟩ : -(324 * (k : Int)) ≤ n ∧ n ≤ 324 * (k : Int) := by
          have := bs_bound HA.out u
          rw [← HN.out, List.length_take, Nat.min_eq_left hk] at this
          exact this
        have hk' : (k : Int) ≤ 1048576 := by omega
        obtain ⟨d, hd⟩ : ∃ d, betI u (e, p, s) = d := ⟨_, rfl⟩
        have HD := Lib.hid hd
        obtain ⟨d1, d2⟩ : -324 ≤ d ∧ d ≤ 324 := by rw [← hd]; exact bet_bound h1 u
        clear hd
        have hq3 : IntKind.i64.wrap (n + d) = n + d := IntWalk.i64_in _ (by omega)
        have HN2 : Hid (n + d = bsI (bs.take (k + 1)) u) := Lib.hid (by rw [bs_take HX.out, HN.out, HD.out])
        have HA2 := Lib.hid (okb_take HX.out h1 HA.out)
        go_wp2_with fail
        rw [HW6.out]
        refine (betOk_any (e, p, s) _).mono ?_
        rintro r w7 ⟨rfl, b7⟩
        rw [h1]
        clear h1
        obtain ⟨hd0, hd1, hd2⟩ := HBX.out w7 b7
        have HB7 := Lib.hid (below_step HB6.out b7 HB6.out.size)
        clear b7 hb0 hb1 hb2
        go_wp2_with fail
        refine (betBrings_any (e, p, s) u hu HOK.out _).mono ?_
        rintro r w8 ⟨rfl, b8⟩
        rw [HD.out]
        have HB8 := Lib.hid (below_step HB7.out b8 HB7.out.size)
        clear b8
        go_wp2_with fail
        go_roundw
        case rel => exact ⟨k + 1, _, by go_num, by omega, rfl, HN2, HA2, HB8⟩
        case measure => simp [intOf]; omega
      · have HT := Lib.hid (okb_no HX.out h1 (u : Int))
        go_wp2_with fail
        rw [HW6.out]
        refine (betOk_any (e, p, s) _).mono ?_
        rintro r w7 ⟨rfl, b7⟩
        rw [h1]
        have HB7 := Lib.hid (below_step HB6.out b7 HB6.out.size)
        clear b7
        go_wp2_with fail
        go_ret2
        exact numPost_ret (bsN_no HT.out) HT.out HB7.out
    · have HNN : Hid (n = bsI bs u) := Lib.hid (by have := HN.out; rwa [List.take_of_length_le (by omega)] at this)
      have HAA : Hid (bs.all okBt = true) := Lib.hid (by have := HA.out; rwa [List.take_of_length_le (by omega)] at this)
      have HT : Hid (bsB bs (u : Int) = true) := Lib.hid (by rw [bsB, HAA.out, HIN.out]; rfl)
      go_wp2_with fail
      go_ret2
      exact numPost_ret (by rw [bsN, if_pos HT.out, HNN.out, Int.toNat_natCast]) HT.out HB.out

end Go.Proofs.Ytkanfolgppbklaa
