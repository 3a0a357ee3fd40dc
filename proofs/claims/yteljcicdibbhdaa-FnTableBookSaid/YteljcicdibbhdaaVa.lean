/- Contracts of the program's functions on tables: TableOk, TableOf, FirstFault, and their helpers. Conditions: rows that read as lists. -/
import Derived.Test.YteljcicdibbhdaaUc
import Derived.Test.YteljcicdibbhdaaNc
import Derived.BigRegion
namespace Go.Proofs.Yteljcicdibbhdaa
open Go.RowKit
set_option linter.unusedVariables false

set_option maxHeartbeats 400000 in
theorem grainsOk_any (x : Int) (W : World) :
    Calls Try.prog 105 #[.int .i64 x] W fun r W' => r = .returned (.bool (inB x 0 36)) ∧ W = W' := by
  by_cases h1 : 0 ≤ x
  · by_cases h2 : x ≤ 36
    · go_enter Try.func105, Try.ntmps105
      go_wp2
      go_ret
      exact ⟨ret_bool (by symm; simp [inB, h1, h2]), rfl⟩
    · have h3 : decide (x ≤ 36) = false := by simpa using h2
      go_enter Try.func105, Try.ntmps105
      go_wp2
      go_ret
      exact ⟨ret_bool (by symm; simp [inB, h1]; omega), rfl⟩
  · have h3 : decide (0 ≤ x) = false := by simpa using h1
    go_enter Try.func105, Try.ntmps105
    go_wp2
    go_ret
    exact ⟨ret_bool (by symm; simp [inB]; omega), rfl⟩

set_option maxHeartbeats 400000 in
theorem countEvents_any (w : Int) (h1 : 1 ≤ w) (h2 : w ≤ 4) (N : Nat) (hN : 2 ^ w.toNat = N) (W : World) :
    Calls Try.prog 104 #[.int .i64 w] W fun e W' => e = .returned (.int .i64 (N : Int)) ∧ W = W' := by
  subst hN
  obtain rfl | rfl | rfl | rfl := wcases h1 h2
  all_goals
    go_enter Try.func104, Try.ntmps104
    go_wp2_with fail
    refine (allWorlds_any _ (by decide) (by decide) _).mono ?_
    rintro e w' ⟨rfl, rfl⟩
    simp only [allI, show (1 : Int).toNat = 1 from rfl, show (2 : Int).toNat = 2 from rfl, show (3 : Int).toNat = 3 from rfl, show (4 : Int).toNat = 4 from rfl, Int.reducePow, Int.reduceSub]
    go_wp2_with fail
    go_ret
    exact ⟨rfl, rfl⟩

set_option maxRecDepth 100000 in
set_option maxHeartbeats 2000000 in
theorem implTableOk_any (w : World) (n : Int) (v : Value) (t : List Int) (hv : IRd w v t) :
    Calls Try.prog 85 #[.int .i64 n, v] w fun r w' => r = .returned (.bool (tokB n t)) ∧ w = w' := by
  obtain ⟨A, c, rfl, hl, hm, -⟩ := id hv
  have HV := Lib.hid hv
  clear hv
  rcases Bool.eq_false_or_eq_true (wokB n) with h | h
  · have HW := Lib.hid h
    obtain ⟨n1, n4⟩ := (wokB_iff n).1 h
    obtain ⟨N, hN⟩ : ∃ N : Nat, 2 ^ n.toNat = N := ⟨_, rfl⟩
    have HN := Lib.hid hN
    clear hN
    by_cases hlen : t.length = N
    · have HL := Lib.hid hlen
      have hne : ((t.length : Int) != (N : Int)) = false := by simp; omega
      clear hlen
      go_enter Try.func85, Try.ntmps85
      go_wp2_with fail
      refine (worldsOk_any _ _).mono ?_
      rintro r w' ⟨rfl, rfl⟩
      rw [h]
      clear h
      go_wp2_with fail
      refine (countEvents_any _ n1 n4 N HN.out _).mono ?_
      rintro r w' ⟨rfl, rfl⟩
      go_wp2_with fail
      clear hne
      go_loop [19] (fun i => ∃ k : Nat, i = .int .i64 (k : Int) ∧ k ≤ t.length ∧ Hid ((t.take k).all (fun x => inB x 0 36) = true)) (fun i => t.length - (intOf i).toNat)
      case atStart => exact ⟨0, rfl, Nat.zero_le _, Lib.hid (by simp)⟩
      case round =>
        obtain ⟨k, rfl, hk, HA⟩ := hrel
        by_cases hlt : k < t.length
        · obtain ⟨b, off, x, rfl, -, hx, hcx⟩ := HV.out.at_ hlt
          have HX := Lib.hid hx
          clear hx
          go_wp2_with fail
          refine (grainsOk_any _ _).mono ?_
          rintro r w' ⟨rfl, rfl⟩
          rcases Bool.eq_false_or_eq_true (inB x 0 36) with h | h
          · rw [h]
            have HT := Lib.hid (all36_take HX.out h HA.out)
            clear h
            go_wp2_with fail
            go_round
            case rel => exact ⟨k + 1, by go_num, by omega, HT⟩
            case measure => simp [intOf]; omega
          · rw [h]
            have HT := Lib.hid (all36_take_no HX.out h n)
            clear h
            go_wp2_with fail
            go_ret
            exact ⟨ret_bool HT.out.symm, rfl⟩
        · have HT : Hid (tokB n t = true) := Lib.hid (by
            have h1 := HA.out
            rw [List.take_of_length_le (by omega)] at h1
            rw [tokB, HW.out, h1, Bool.true_and, Bool.and_true, decide_eq_true_iff]
            have h2 := HL.out
            rw [← HN.out] at h2
            rw [h2]; push_cast; rfl)
          go_wp2_with fail
          go_ret
          exact ⟨ret_bool HT.out.symm, rfl⟩
    · have HL : Hid (tokB n t = false) := Lib.hid (by
        rw [← Bool.not_eq_true, tokB_iff]
        rintro ⟨-, h2, -⟩
        rw [HN.out] at h2; exact hlen h2)
      have hne : ((t.length : Int) != (N : Int)) = true := by simp; omega
      clear hlen
      go_enter Try.func85, Try.ntmps85
      go_wp2_with fail
      refine (worldsOk_any _ _).mono ?_
      rintro r w' ⟨rfl, rfl⟩
      rw [h]
      clear h
      go_wp2_with fail
      refine (countEvents_any _ n1 n4 N HN.out _).mono ?_
      rintro r w' ⟨rfl, rfl⟩
      go_wp2_with fail
      go_ret
      exact ⟨ret_bool HL.out.symm, rfl⟩
  · have HL : Hid (tokB n t = false) := Lib.hid (by rw [tokB, h]; rfl)
    go_enter Try.func85, Try.ntmps85
    go_wp2_with fail
    refine (worldsOk_any _ _).mono ?_
    rintro r w' ⟨rfl, rfl⟩
    rw [h]
    go_wp2_with fail
    go_ret
    exact ⟨ret_bool HL.out.symm, rfl⟩

set_option maxRecDepth 100000 in
set_option maxHeartbeats 4000000 in
theorem tooMany_any (w : World) (v : Value) (t : List Int) (a b M : Nat) (x y z : Int) (hv : IRd w v t) (hx : t[a]? = some x) (hy : t[b]? = some y) (hz : t[M]? = some z) (hM : a ||| b = M) (h16 : t.length ≤ 16) (x0 : 0 ≤ x ∧ x ≤ 36) (y0 : 0 ≤ y ∧ y ≤ 36) (z0 : 0 ≤ z ∧ z ≤ 36) :
    Calls Try.prog 107 #[v, .int .i64 (a : Int), .int .i64 (b : Int)] w fun r w' => r = .returned (.int .i64 (x + y - z)) ∧ Below w.heap.size w w' := by
  have hal : a < t.length := (List.getElem?_eq_some_iff.1 hx).1
  have hbl : b < t.length := (List.getElem?_eq_some_iff.1 hy).1
  have hMl : M < t.length := (List.getElem?_eq_some_iff.1 hz).1
  have hor := or_nat (a := a) (b := b) (by omega) (by omega)
  rw [hM] at hor
  obtain ⟨A, c, rfl, hl, hm, -⟩ := id hv
  obtain ⟨B, off, x', rfl, -, hx', hcx'⟩ := hv.at_ hal
  have hcx := IRd.cellk hv hx
  have hcy := IRd.cellk hv hy
  have hcz := IRd.cellk hv hz
  have hw1 : IntKind.i64.wrap (x + y) = x + y := IntWalk.i64_in _ (by omega)
  have hw2 : wrap64 (x + y) = x + y := IntWalk.wrap64_in _ (by omega)
  have hw3 : IntKind.i64.wrap (x + y - z) = x + y - z := IntWalk.i64_in _ (by omega)
  have hw4 : wrap64 (x + y - z) = x + y - z := IntWalk.wrap64_in _ (by omega)
  have i1 : (0 : Int) ≤ (a : Int) := by omega
  have i2 : (a : Int) < (t.length : Int) := by omega
  have i3 : (0 : Int) ≤ (b : Int) := by omega
  have i4 : (b : Int) < (t.length : Int) := by omega
  have i5 : (0 : Int) ≤ (M : Int) := by omega
  have i6 : (M : Int) < (t.length : Int) := by omega
  clear hx hy hz hx' hcx' hM hv
  go_enter Try.func107, Try.ntmps107
  go_wp2_with fail
  go_region
  all_goals
    go_wp2_with fail
    go_ret
    exact ⟨rfl, by first | exact (Below.refl _ _).drew | exact Below.refl _ _⟩

theorem ev_lt {m : Nat} {t : List Int} {a : Nat} (m1 : 1 ≤ m) (m4 : m ≤ 4) (hl : t.length = 2 ^ m) (ha : a < t.length) : evB (m : Int) (a : Int) = true := by
  rw [evB_iff]
  rw [hl] at ha
  have h6 : ((2 ^ m : Nat) : Int) = 2 ^ m := by push_cast; rfl
  refine ⟨by omega, by omega, by omega, ?_⟩
  rw [allI, Int.toNat_natCast]
  omega

theorem ap_nat {m : Nat} {t : List Int} {a b : Nat} (m1 : 1 ≤ m) (m4 : m ≤ 4) (hl : t.length = 2 ^ m) (h16 : t.length ≤ 16) (ha : a < t.length) (hb : b < t.length) : apB (m : Int) (a : Int) (b : Int) = (a &&& b == 0) := by
  rw [apB_tt (ev_lt m1 m4 hl ha) (ev_lt m1 m4 hl hb), and_nat (by omega) (by omega)]
  apply bool_eq
  simp only [beq_iff_eq]
  omega

set_option maxRecDepth 100000 in
set_option maxHeartbeats 8000000 in
theorem implFirstFault_any (w : World) (n : Int) (v : Value) (t : List Int) (hv : IRd w v t) :
    Calls Try.prog 86 #[.int .i64 n, v] w (FFPost n t w) := by
  obtain ⟨A, c, rfl, hl, hm, -⟩ := id hv
  have HV : Hid (∀ wr, Below w.heap.size w wr → IRd wr (.slice A t.length c) t) := Lib.hid (fun wr h => hv.keep (SameAt.of_below h))
  have HV0 := Lib.hid hv
  clear hv
  rcases Bool.eq_false_or_eq_true (tokB n t) with h | h
  · have H := Lib.hid h
    obtain ⟨m, rfl, m1, m4, hlen, h16, h2⟩ := tok_len h
    have HAP : Hid (∀ a b : Nat, a < t.length → b < t.length → apB (m : Int) (a : Int) (b : Int) = (a &&& b == 0)) := Lib.hid (fun a b ha hb => ap_nat m1 m4 hlen h16 ha hb)
    have HG := Lib.hid (tok_get h)
    have HOR : Hid (∀ a b : Nat, a < t.length → b < t.length → a ||| b < t.length) := Lib.hid (fun a b ha hb => by
      rw [hlen] at ha hb ⊢; exact Nat.or_lt_two_pow ha hb)
    clear h hlen
    go_enter Try.func86, Try.ntmps86
    go_wp2_with fail
    refine (implTableOk_any _ _ _ _ HV0.out).mono ?_
    rintro r w' ⟨rfl, rfl⟩
    rw [H.out]
    go_wp2_with fail
    go_loopw [15] (fun i wr => ∃ a : Nat, i = .int .i64 (a : Int) ∧ a ≤ t.length ∧ Hid (NoF t a) ∧ Hid (Below w.heap.size w wr)) (fun i _ => t.length - (intOf i).toNat)
    case atStart => exact ⟨0, rfl, Nat.zero_le _, Lib.hid (fun i hi => by omega), Lib.hid (Below.refl _ _)⟩
    case round =>
      obtain ⟨a, rfl, ha, HF, HB⟩ := hrel
      by_cases hlt : a < t.length
      · go_wp2_with fail
        go_loopw [20] (fun i wq => ∃ b : Nat, i = .int .i64 (b : Int) ∧ b ≤ t.length ∧ Hid (NoR t a b) ∧ Hid (Below w.heap.size w wq)) (fun i _ => t.length - (intOf i).toNat)
        case atStart => exact ⟨0, rfl, Nat.zero_le _, Lib.hid (fun j hj => by omega), HB⟩
        case round =>
          clear HB
          obtain ⟨b, rfl, hb, HC, HB⟩ := hrel
          by_cases hlt2 : b < t.length
          · obtain ⟨p, hp⟩ : ∃ p, (a &&& b == 0) = p := ⟨_, rfl⟩
            have HP := Lib.hid hp
            have hap := HAP.out a b hlt hlt2
            rw [hp] at hap
            clear hp
            have HAPB := Lib.hid hap
            clear hap
            cases p
            · have HIS : Hid (isF t a b = false) := Lib.hid (by rw [isF, HP.out]; rfl)
              go_wp2_with fail
              refine (implApartOk_any _ _ _ _).mono ?_
              rintro r w' ⟨rfl, rfl⟩
              rw [HAPB.out]
              go_wp2_with fail
              go_roundw
              case rel => exact ⟨b + 1, by go_num, by omega, Lib.hid (HC.out.succ HIS.out), HB⟩
              case measure => simp [intOf]; omega
            · obtain ⟨x, hx⟩ : ∃ x, t[a]? = some x := ⟨_, List.getElem?_eq_getElem hlt⟩
              obtain ⟨y, hy⟩ : ∃ y, t[b]? = some y := ⟨_, List.getElem?_eq_getElem hlt2⟩
              obtain ⟨z, hz⟩ : ∃ z, t[a ||| b]? = some z := ⟨_, List.getElem?_eq_getElem (HOR.out a b hlt hlt2)⟩
              have x12 : 0 ≤ x ∧ x ≤ 36 := by have := HG.out a; rwa [tget_at hx] at this
              have y12 : 0 ≤ y ∧ y ≤ 36 := by have := HG.out b; rwa [tget_at hy] at this
              have z12 : 0 ≤ z ∧ z ≤ 36 := by have := HG.out (a ||| b); rwa [tget_at hz] at this
              have HIS : Hid (isF t a b = !(x + y == z)) := Lib.hid (by rw [isF, HP.out, tget_at hx, tget_at hy, tget_at hz]; rfl)
              have HT : Hid (∀ wq, Below w.heap.size w wq → Calls Try.prog 107 #[.slice A t.length c, .int .i64 (a : Int), .int .i64 (b : Int)] wq fun r w' => r = .returned (.int .i64 (x + y - z)) ∧ Below wq.heap.size wq w') := Lib.hid (fun wq hq => tooMany_any wq _ t a b (a ||| b) x y z (HV.out wq hq) hx hy hz rfl h16 x12 y12 z12)
              clear hx hy hz
              obtain ⟨d, hd⟩ : ∃ d, x + y - z = d := ⟨_, rfl⟩
              rw [hd] at HT
              by_cases hd0 : d = 0
              · have HIS2 : Hid (isF t a b = false) := Lib.hid (by rw [HIS.out, show (x + y == z) = true from by simp; omega]; rfl)
                subst hd0
                clear hd
                go_wp2_with fail
                refine (implApartOk_any _ _ _ _).mono ?_
                rintro r w' ⟨rfl, rfl⟩
                rw [HAPB.out]
                go_wp2_with fail
                refine (HT.out _ HB.out).mono ?_
                rintro r w2 ⟨rfl, b2⟩
                have HB2 := Lib.hid (below_step HB.out b2 HB.out.size)
                clear b2
                go_wp2_with fail
                go_roundw
                case rel => exact ⟨b + 1, by go_num, by omega, Lib.hid (HC.out.succ HIS2.out), HB2⟩
                case measure => simp [intOf]; omega
              · have HIS2 : Hid (isF t a b = true) := Lib.hid (by rw [HIS.out, show (x + y == z) = false from by simp; omega]; rfl)
                have HFF : Hid (ffA (m : Int) t = a ∧ ffB (m : Int) t = b ∧ ffO (m : Int) t = true) := Lib.hid (ff_some H.out (fault_at hlt hlt2 HIS2.out HF.out HC.out))
                have hd1 : (d != 0) = true := by simpa using hd0
                clear hd hd0
                go_wp2_with fail
                refine (implApartOk_any _ _ _ _).mono ?_
                rintro r w' ⟨rfl, rfl⟩
                rw [HAPB.out]
                go_wp2_with fail
                refine (HT.out _ HB.out).mono ?_
                rintro r w2 ⟨rfl, b2⟩
                have HB2 := Lib.hid (below_step HB.out b2 HB.out.size)
                clear b2
                go_wp2_with fail
                go_returns
                exact ffPost_ret HFF.out HB2.out
          · have HF2 := Lib.hid (HF.out.succ HC.out (by omega))
            go_wp2_with fail
            go_roundw
            case rel => exact ⟨a + 1, by go_num, by omega, HF2, HB⟩
            case measure => simp [intOf]; omega
      · have HN := Lib.hid (fault_no (t := t) (fun i hi j hj => HF.out i (by omega) j hj))
        go_wp2_with fail
        go_returns
        exact ffPost_ret (ff_none HN.out) HB.out
  · have H := Lib.hid h
    clear h
    go_enter Try.func86, Try.ntmps86
    go_wp2_with fail
    refine (implTableOk_any _ _ _ _ HV0.out).mono ?_
    rintro r w' ⟨rfl, rfl⟩
    rw [H.out]
    go_wp2_with fail
    go_returns
    exact ffPost_ret (ff_no H.out) (Below.refl _ _)

end Go.Proofs.Yteljcicdibbhdaa
