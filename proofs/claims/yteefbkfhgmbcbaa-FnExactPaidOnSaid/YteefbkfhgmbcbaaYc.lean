/- Contracts of spec's TicketsOk, PoolOf, l10On, PaidOn. Conditions: rows that read. -/
import Derived.Test.YteefbkfhgmbcbaaYa
import Derived.Test.YteefbkfhgmbcbaaXg
import Derived.Test.YteefbkfhgmbcbaaKit
namespace Go.Proofs.Yteefbkfhgmbcbaa
open Go.RowKit
set_option linter.unusedVariables false

theorem tk_no {W : Int} {ts : List Qt} {k : Nat} {t : Qt} (ht : ts[k]? = some t) (h : inB t.1 0 (IntKind.i64.wrap (W - 1)) = false ∨ inB t.2 1 50 = false) : tkB W ts = false := by
  rw [← Bool.not_eq_true, tkB_iff]
  rintro ⟨h1, h2, -, h4⟩
  have h5 := (tkOne_iff W t).1 (h4 t (List.mem_of_getElem? ht))
  rw [IntWalk.i64_in (W - 1) (by omega)] at h
  rcases h with h | h
  · rw [← Bool.not_eq_true, inB_iff] at h; omega
  · rw [← Bool.not_eq_true, inB_iff] at h; omega

theorem tk_end {W : Int} {ts : List Qt} (h : ∀ t ∈ ts, inB t.1 0 (IntKind.i64.wrap (W - 1)) = true ∧ inB t.2 1 50 = true) : tkB W ts = (inB W 1 4 && decide (ts.length ≤ 6)) := by
  cases hw : inB W 1 4 with
  | false => rw [tkB, hw]; rfl
  | true =>
    have h1 := (inB_iff _ _ _).1 hw
    have : ts.all (tkOne W) = true := by
      rw [List.all_eq_true]
      intro t ht
      obtain ⟨a, b⟩ := h t ht
      rw [IntWalk.i64_in (W - 1) (by omega)] at a
      rw [tkOne, a, b]; rfl
    rw [tkB, hw, this, Bool.and_true]

theorem take_mem10 {ts : List Qt} {k : Nat} {t : Qt} {P : Qt → Prop} (ht : ts[k]? = some t) (h : ∀ x ∈ ts.take k, P x) (hp : P t) : ∀ x ∈ ts.take (k + 1), P x := by
  intro x hx
  rw [take_snoc10 ht] at hx
  rcases List.mem_append.1 hx with hx | hx
  · exact h x hx
  · obtain rfl := List.mem_singleton.1 hx; exact hp

set_option maxHeartbeats 2000000 in
theorem specTicketsOk_any (w : World) (W : Int) (v : Value) (ts : List Qt) (hv : QRd w v ts) :
    Calls Try.prog 16 #[.int .i64 W, v] w fun r w' => r = .returned (.bool (tkB W ts)) ∧ w = w' := by
  obtain ⟨A, c, rfl, hl, hm⟩ := hv.form
  have HV := Lib.hid hv
  clear hv
  obtain ⟨W1, hW1⟩ : ∃ x, IntKind.i64.wrap (W - 1) = x := ⟨_, rfl⟩
  go_enter Try.func16, Try.ntmps16
  go_wp2_with fail
  go_loop [5] (fun i => ∃ k : Nat, i = .int .i64 (k : Int) ∧ k ≤ ts.length ∧ Hid (∀ t ∈ ts.take k, inB t.1 0 W1 = true ∧ inB t.2 1 50 = true)) (fun i => ts.length - (intOf i).toNat)
  case atStart => exact ⟨0, rfl, Nat.zero_le _, Lib.hid (by simp)⟩
  case round =>
    obtain ⟨k, rfl, hk, HA⟩ := hrel
    by_cases hlt : k < ts.length
    · obtain ⟨b, off, t, rfl, -, hx, hc0, hc1⟩ := QRd.at_ HV.out hlt
      have hlt' : (k : Int) < (ts.length : Int) := by omega
      have HX := Lib.hid hx
      have HW := Lib.hid hW1
      clear hx
      rcases Bool.eq_false_or_eq_true (inB t.1 0 W1) with h1 | h1
      · rcases Bool.eq_false_or_eq_true (inB t.2 1 50) with h2 | h2
        · have HS := Lib.hid (take_mem10 HX.out HA.out ⟨h1, h2⟩)
          go_wp2_with fail
          refine (l1In_any _ _ _ _).mono ?_
          rintro r w' ⟨rfl, rfl⟩
          rw [h1]
          go_wp2_with fail
          refine (l1In_any _ _ _ _).mono ?_
          rintro r w' ⟨rfl, rfl⟩
          rw [h2]
          go_wp2_with fail
          go_round
          case rel => exact ⟨k + 1, by go_num, by omega, HS⟩
          case measure => simp [intOf]; omega
        · have HN : Hid (tkB W ts = false) := Lib.hid (tk_no HX.out (.inr h2))
          go_wp2_with fail
          refine (l1In_any _ _ _ _).mono ?_
          rintro r w' ⟨rfl, rfl⟩
          rw [h1]
          go_wp2_with fail
          refine (l1In_any _ _ _ _).mono ?_
          rintro r w' ⟨rfl, rfl⟩
          rw [h2]
          go_wp2_with fail
          go_ret
          exact ⟨ret_bool HN.out.symm, rfl⟩
      · have HN : Hid (tkB W ts = false) := Lib.hid (tk_no HX.out (.inl (by rw [HW.out]; exact h1)))
        go_wp2_with fail
        refine (l1In_any _ _ _ _).mono ?_
        rintro r w' ⟨rfl, rfl⟩
        rw [h1]
        go_wp2_with fail
        go_ret
        exact ⟨ret_bool HN.out.symm, rfl⟩
    · obtain rfl : k = ts.length := by omega
      have HE : Hid (tkB W ts = (inB W 1 4 && decide (ts.length ≤ 6))) := Lib.hid (tk_end (by have := HA.out; rw [List.take_length, ← hW1] at this; exact this))
      clear hW1
      by_cases h6 : ts.length ≤ 6
      · have h6' : (ts.length : Int) ≤ 6 := by omega
        have hd : decide (ts.length ≤ 6) = true := decide_eq_true h6
        go_wp2_with fail
        refine (l1In_any _ _ _ _).mono ?_
        rintro r w' ⟨rfl, rfl⟩
        cases h1 : inB W 1 4 with
        | true =>
          go_wp2_with fail
          go_ret
          exact ⟨ret_bool (by rw [HE.out, h1, hd]; rfl), rfl⟩
        | false =>
          go_wp2_with fail
          go_ret
          exact ⟨ret_bool (by rw [HE.out, h1]; rfl), rfl⟩
      · have h6' : (6 : Int) < (ts.length : Int) := by omega
        have hd : decide (ts.length ≤ 6) = false := decide_eq_false h6
        go_wp2_with fail
        refine (l1In_any _ _ _ _).mono ?_
        rintro r w' ⟨rfl, rfl⟩
        cases h1 : inB W 1 4 with
        | true =>
          go_wp2_with fail
          go_ret
          exact ⟨ret_bool (by rw [HE.out, h1, hd]; first | rfl | exact decide_eq_false (by omega)), rfl⟩
        | false =>
          go_wp2_with fail
          go_ret
          exact ⟨ret_bool (by rw [HE.out, h1]; rfl), rfl⟩

set_option maxHeartbeats 2000000 in
theorem l10On_any (w : World) (v : Value) (ts : List Qt) (x : Int) (hv : QRd w v ts) (hp : Pays ts) (h6 : ts.length ≤ 6) :
    Calls Try.prog 50 #[v, .int .i64 x] w fun r w' => r = .returned (.int .i64 (onW ts x)) ∧ w = w' := by
  obtain ⟨A, c, rfl, hl, hm⟩ := hv.form
  have HV := Lib.hid hv
  have HP := Lib.hid hp
  clear hv hp
  go_enter Try.func50, Try.ntmps50
  go_wp2_with fail
  go_loop [5, 6] (fun s i => ∃ (k : Nat) (n : Int), i = .int .i64 (k : Int) ∧ k ≤ ts.length ∧ s = .int .i64 n ∧ 0 ≤ n ∧ n ≤ 300 ∧ Hid (n = onW (ts.take k) x)) (fun _ i => ts.length - (intOf i).toNat)
  case atStart => exact ⟨0, 0, rfl, Nat.zero_le _, rfl, by omega, by omega, Lib.hid (by simp [onW])⟩
  case round =>
    obtain ⟨k, n, rfl, hk, rfl, n0, n3, HN⟩ := hrel
    by_cases hlt : k < ts.length
    · obtain ⟨b, off, t, rfl, -, hx, hc0, hc1⟩ := QRd.at_ HV.out hlt
      have hlt' : (k : Int) < (ts.length : Int) := by omega
      have hb := HP.out t (List.mem_of_getElem? hx)
      have hon := onW_bound (HP.out.take (k + 1)) x
      have hsu := (sum2_bound (HP.out.take (k + 1))).2
      have hln : (ts.take (k + 1)).length ≤ 6 := by rw [List.length_take]; omega
      have hnx := onW_take hx x
      rw [← HN.out] at hnx
      by_cases he : t.1 = x
      · rw [if_pos he] at hnx
        have hb1 : 0 ≤ n + t.2 ∧ n + t.2 ≤ 300 := by omega
        have HX := Lib.hid hnx
        have heq : (t.1 == x) = true := by simpa using he
        have hw : IntKind.i64.wrap (n + t.2) = n + t.2 := IntWalk.i64_in _ (by omega)
        clear hnx hon hsu hln hx he
        go_wp2_with fail
        go_round
        case rel => exact ⟨k + 1, n + t.2, by go_num, by omega, rfl, hb1.1, hb1.2, Lib.hid HX.out.symm⟩
        case measure => simp [intOf]; omega
      · rw [if_neg he, Int.add_zero] at hnx
        have HX := Lib.hid hnx
        have heq : (t.1 == x) = false := by simpa using he
        clear hnx hon hsu hln hx he
        go_wp2_with fail
        go_round
        case rel => exact ⟨k + 1, n, by go_num, by omega, rfl, n0, n3, Lib.hid HX.out.symm⟩
        case measure => simp [intOf]; omega
    · obtain rfl : k = ts.length := by omega
      go_wp2_with fail
      go_ret
      exact ⟨ret_int (by rw [HN.out, List.take_length]), rfl⟩

set_option maxHeartbeats 2000000 in
theorem specPoolOf_any (w : World) (W : Int) (v : Value) (ts : List Qt) (hv : QRd w v ts) :
    Calls Try.prog 21 #[.int .i64 W, v] w fun r w' => r = .returned (.int .i64 (poolR W ts)) ∧ w = w' := by
  obtain ⟨A, c, rfl, hl, hm⟩ := hv.form
  have HV := Lib.hid hv
  clear hv
  rcases Bool.eq_false_or_eq_true (tkB W ts) with h | h
  · have HP := Lib.hid (pays_of h)
    have h6 := ((tkB_iff W ts).1 h).2.2.1
    have HR : Hid (poolR W ts = sum2 ts) := Lib.hid (by rw [poolR, if_pos h])
    go_enter Try.func21, Try.ntmps21
    go_wp2_with fail
    refine (specTicketsOk_any w W _ ts HV.out).mono ?_
    rintro r w' ⟨rfl, rfl⟩
    rw [h]
    clear h
    go_wp2_with fail
    go_loop [5, 6] (fun s i => ∃ (k : Nat) (n : Int), i = .int .i64 (k : Int) ∧ k ≤ ts.length ∧ s = .int .i64 n ∧ 0 ≤ n ∧ n ≤ 300 ∧ Hid (n = sum2 (ts.take k))) (fun _ i => ts.length - (intOf i).toNat)
    case atStart => exact ⟨0, 0, rfl, Nat.zero_le _, rfl, by omega, by omega, Lib.hid (by simp [sum2])⟩
    case round =>
      obtain ⟨k, n, rfl, hk, rfl, n0, n3, HN⟩ := hrel
      by_cases hlt : k < ts.length
      · obtain ⟨b, off, t, rfl, -, hx, hc0, hc1⟩ := QRd.at_ HV.out hlt
        have hlt' : (k : Int) < (ts.length : Int) := by omega
        have hb := HP.out t (List.mem_of_getElem? hx)
        have hsu := sum2_bound (HP.out.take (k + 1))
        have hln : (ts.take (k + 1)).length ≤ 6 := by rw [List.length_take]; omega
        have hnx := sum2_take hx
        rw [← HN.out] at hnx
        have hb1 : 0 ≤ n + t.2 ∧ n + t.2 ≤ 300 := by omega
        have HX := Lib.hid hnx
        have hw : IntKind.i64.wrap (n + t.2) = n + t.2 := IntWalk.i64_in _ (by omega)
        clear hnx hsu hln hx
        go_wp2_with fail
        go_round
        case rel => exact ⟨k + 1, n + t.2, by go_num, by omega, rfl, hb1.1, hb1.2, Lib.hid HX.out.symm⟩
        case measure => simp [intOf]; omega
      · obtain rfl : k = ts.length := by omega
        go_wp2_with fail
        go_ret
        exact ⟨ret_int (by rw [HR.out, HN.out, List.take_length]), rfl⟩
  · have HR : Hid (poolR W ts = -1) := Lib.hid (by rw [poolR, h]; rfl)
    go_enter Try.func21, Try.ntmps21
    go_wp2_with fail
    refine (specTicketsOk_any w W _ ts HV.out).mono ?_
    rintro r w' ⟨rfl, rfl⟩
    rw [h]
    go_wp2_with fail
    go_ret
    exact ⟨ret_int HR.out.symm, rfl⟩

end Go.Proofs.Yteefbkfhgmbcbaa
