/- Contracts of the program's functions on measures: MeasureOk, grainsOn, GrainsOn, BringsBy. Conditions: rows that read as lists. Contracts of the program's fits, FitsOk. Conditions: stated at each. -/
import Derived.Test.YtbjmhbkpeglpkaaMb
import Derived.Test.YtbjmhbkpeglpkaaQc
namespace Go.Proofs.Ytbjmhbkpeglpkaa
open Go.RowKit
set_option linter.unusedVariables false

/-- what is left of the grains -/
def LeftIs (xs : List Int) (k : Nat) (n : Int) : Prop := (∀ y ∈ xs.take k, 0 ≤ y ∧ y ≤ 36) ∧ n = 36 - (xs.take k).sum ∧ 0 ≤ n ∧ n ≤ 36

theorem LeftIs.step {xs : List Int} {k : Nat} {n x : Int} (h : LeftIs xs k n) (hx : xs[k]? = some x) (h0 : 0 ≤ x) (h1 : x ≤ n) : LeftIs xs (k + 1) (n - x) := by
  obtain ⟨a, b, c, d⟩ := h
  refine ⟨allm_take hx ((inB_iff _ _ _).2 (by omega)) a, ?_, by omega, by omega⟩
  rw [sum_take hx]; omega

theorem take_sum_le {xs : List Int} (h : ∀ y ∈ xs, 0 ≤ y) (k : Nat) : (xs.take k).sum ≤ xs.sum := by
  induction xs generalizing k with
  | nil => simp
  | cons x xs ih =>
    cases k with
    | zero =>
      have h1 := ih (fun y hy => h y (by simp [hy])) 0
      have h2 := h x (by simp)
      simp at h1 ⊢; omega
    | succ k =>
      have h1 := ih (fun y hy => h y (by simp [hy])) k
      simp; omega

theorem left_no {xs : List Int} {k : Nat} {n x : Int} (h : LeftIs xs k n) (hx : xs[k]? = some x) (h0 : x < 0 ∨ n < x) : meaB xs = false := by
  rw [← Bool.not_eq_true, meaB_iff]
  rintro ⟨a, -, -, d⟩
  have h1 := take_sum_le (fun y hy => (a y hy).1) (k + 1)
  rw [sum_take hx] at h1
  have h2 := a x (List.mem_of_getElem? hx)
  obtain ⟨-, b, -, -⟩ := h
  omega

theorem left_all {xs : List Int} {k : Nat} {n : Int} (h : LeftIs xs k n) (hk : xs.length ≤ k) (hw : wokB (xs.length : Int) = true) : meaB xs = (n == 0) := by
  obtain ⟨a, b, -, -⟩ := h
  rw [List.take_of_length_le hk] at a b
  obtain ⟨w1, w2⟩ := (wokB_iff _).1 hw
  apply bool_eq
  rw [meaB_iff, beq_iff_eq]
  exact ⟨fun ⟨_, _, _, d⟩ => by omega, fun e => ⟨a, by omega, by omega, by omega⟩⟩

theorem mea_wok {xs : List Int} (hw : wokB (xs.length : Int) = false) : meaB xs = false := by
  rw [← Bool.not_eq_true, meaB_iff]
  rintro ⟨-, b, c, -⟩
  rw [← Bool.not_eq_true, wokB_iff] at hw
  omega

set_option maxHeartbeats 2000000 in
theorem implMeasureOk_any (w : World) (v : Value) (xs : List Int) (hv : IRd w v xs) :
    Calls Try.prog 19 #[v] w fun r w' => r = .returned (.bool (meaB xs)) ∧ w = w' := by
  obtain ⟨A, c, rfl, hl, hm, -⟩ := id hv
  have HV := Lib.hid hv
  clear hv
  rcases Bool.eq_false_or_eq_true (wokB (xs.length : Int)) with hw | hw
  · have HW := Lib.hid hw
    go_enter Try.func19, Try.ntmps19
    go_wp2_with fail
    refine (worldsOk_any _ _).mono ?_
    rintro r w' ⟨rfl, rfl⟩
    rw [hw]
    clear hw
    go_wp2_with fail
    go_loop [3, 12] (fun t i => ∃ (k : Nat) (n : Int), i = .int .i64 (k : Int) ∧ k ≤ xs.length ∧ t = .int .i64 n ∧ Hid (LeftIs xs k n)) (fun _ i => xs.length - (intOf i).toNat)
    case atStart => exact ⟨0, 36, rfl, Nat.zero_le _, rfl, Lib.hid ⟨by simp, by simp, by omega, by omega⟩⟩
    case round =>
      obtain ⟨k, n, rfl, hk, rfl, HS⟩ := hrel
      by_cases hlt : k < xs.length
      · obtain ⟨b, off, x, rfl, -, hx, hcx⟩ := HV.out.at_ hlt
        have HX := Lib.hid hx
        clear hx
        by_cases h0 : x < 0
        · go_wp2_with fail
          go_ret
          exact ⟨ret_bool (left_no HS.out HX.out (.inl h0)).symm, rfl⟩
        · have h0' : 0 ≤ x := by omega
          clear h0
          by_cases h1 : n < x
          · go_wp2_with fail
            go_ret
            exact ⟨ret_bool (left_no HS.out HX.out (.inr h1)).symm, rfl⟩
          · have h1' : x ≤ n := by omega
            clear h1
            have hn := HS.out.2.2.2
            have HN := Lib.hid (HS.out.step HX.out h0' h1')
            go_wp2_with fail
            go_round
            case rel => exact ⟨k + 1, _, by go_num, by omega, rfl, HN⟩
            case measure => simp [intOf]; omega
      · have HM := Lib.hid (left_all HS.out (by omega) HW.out)
        go_wp2_with fail
        go_ret
        exact ⟨ret_bool HM.out.symm, rfl⟩
  · have HN := Lib.hid (mea_wok hw)
    go_enter Try.func19, Try.ntmps19
    go_wp2_with fail
    refine (worldsOk_any _ _).mono ?_
    rintro r w' ⟨rfl, rfl⟩
    rw [hw]
    go_wp2_with fail
    go_ret
    exact ⟨ret_bool HN.out.symm, rfl⟩

theorem on_next {m : List Int} (hm : Grs m) {k : Nat} {x : Int} (hx : m[k]? = some x) (e : Int) :
    ((bitI e k == 1) = true → onI (m.take k) e + x = onI (m.take (k + 1)) e) ∧ ((bitI e k == 1) = false → onI (m.take k) e = onI (m.take (k + 1)) e) := by
  have h1 := onI_take hx e
  rcases bitI_01 e k with h | h
  · rw [h] at h1; rw [h]
    refine ⟨fun h2 => by simp at h2, fun _ => by rw [h1]; omega⟩
  · rw [h] at h1; rw [h]
    refine ⟨fun _ => by rw [h1]; omega, fun h2 => by simp at h2⟩

set_option maxHeartbeats 2000000 in
theorem implGrains_any (w : World) (v : Value) (m : List Int) (e : Int) (hv : IRd w v m) (hm : Grs m) (e1 : 0 ≤ e) (e2 : e ≤ 15) :
    Calls Try.prog 72 #[v, .int .i64 e] w fun r w' => r = .returned (.int .i64 (onI m e)) ∧ w = w' := by
  obtain ⟨A, c, rfl, hl, hmx, -⟩ := id hv
  have HV := Lib.hid hv
  have HM := Lib.hid hm
  have hm4 := hm.2
  clear hv hm
  go_enter Try.func72, Try.ntmps72
  go_wp2_with fail
  go_loop [5, 10] (fun t i => ∃ (k : Nat) (n : Int), i = .int .i64 (k : Int) ∧ k ≤ m.length ∧ t = .int .i64 n ∧ Hid (n = onI (m.take k) e)) (fun _ i => m.length - (intOf i).toNat)
  case atStart => exact ⟨0, 0, rfl, Nat.zero_le _, rfl, Lib.hid (by simp [onI])⟩
  case round =>
    obtain ⟨k, n, rfl, hk, rfl, HN⟩ := hrel
    by_cases hlt : k < m.length
    · obtain ⟨b, off, x, rfl, -, hx, hcx⟩ := HV.out.at_ hlt
      have HX := Lib.hid (on_next HM.out hx e)
      obtain ⟨x1, x2⟩ := HM.out.1 x (List.mem_of_getElem? hx)
      obtain ⟨n1, n2⟩ : 0 ≤ n ∧ n ≤ 144 := by rw [HN.out]; exact grs_on HM.out e k
      clear hx
      rcases Bool.eq_false_or_eq_true (bitI e k == 1) with hb | hb
      all_goals
        have HB1 := Lib.hid hb
        go_wp2_with (go_at_call 77; refine (hasQ_any _ _ e1 e2 (by omega) _).mono ?_; rintro r w' ⟨rfl, rfl⟩)
        go_round
        case rel => exact ⟨k + 1, _, by go_num, by omega, rfl, Lib.hid (by rw [HN.out]; first | exact HX.out.1 HB1.out | exact HX.out.2 HB1.out)⟩
        case measure => simp [intOf]; omega
    · go_wp2_with fail
      go_ret
      exact ⟨ret_int (by rw [HN.out, List.take_of_length_le (by omega)]), rfl⟩

theorem br_next' {m g : List Int} (hm : Grs m) (hg : gokB g = true) (h : m.length = g.length) {k : Nat} {x y : Int} (hx : m[k]? = some x) (hy : g[k]? = some y) :
    brI (m.take k) (g.take k) + y * x = brI (m.take (k + 1)) (g.take (k + 1)) ∧ wrap64 (brI (m.take k) (g.take k) + y * x) = brI (m.take (k + 1)) (g.take (k + 1)) ∧ IntKind.i64.wrap (brI (m.take k) (g.take k) + y * x) = brI (m.take (k + 1)) (g.take (k + 1)) := by
  rw [Int.mul_comm y x]; exact br_next hm hg h hx hy

end Go.Proofs.Ytbjmhbkpeglpkaa

namespace Go.Proofs.Ytbjmhbkpeglpkaa
open Go.RowKit
set_option linter.unusedVariables false

theorem fit_step {m : List Int} {qs : List Qt} {k : Nat} {q : Qt} (hx : qs[k]? = some q) : fitI m (qs.take (k + 1)) = (fitI m (qs.take k) && (onI m q.1 * 6 == q.2 * 36)) := by
  rw [fitI, fitI, List.take_add_one, hx]
  simp

end Go.Proofs.Ytbjmhbkpeglpkaa
