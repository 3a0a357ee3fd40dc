/- Contracts of the program's functions on measures: MeasureOk, grainsOn, GrainsOn, BringsBy. Conditions: rows that read as lists. Contracts of the program's fits, FitsOk. Conditions: stated at each. -/
import Derived.Test.YtghmgnhiglmifaaMb
import Derived.Test.YtghmgnhiglmifaaQc
namespace Go.Proofs.Ytghmgnhiglmifaa
open Go.RowKit
set_option linter.unusedVariables false

/-- what is left of the grains -/
def LeftIs (xs : List Int) (k : Nat) (n : Int) : Prop := (∀ y ∈ xs.take k, 0 ≤ y ∧ y ≤ 36) ∧ n = 36 - (xs.take k).sum ∧ 0 ≤ n ∧ n ≤ 36

theorem LeftIs.step {xs : List Int} {k : Nat} {n x : Int} (h : LeftIs xs k n) (hx : xs[k]? = some x) (h0 : 0 ≤ x) (h1 : x ≤ n) : LeftIs xs (k + 1) (n - x) := by
  obtain ⟨a, b, c, d⟩ := h
  refine ⟨allm_take hx ((inB_iff _ _ _).2 (by omega)) a, ?_, by omega, by omega⟩
  rw [sum_take hx]; omega

theorem take_sum_le {xs : List Int} (h : ∀ y ∈ xs, 0 ≤ y) (k : Nat) : (xs.take k).sum ≤ xs.sum := by
  induction xs generalizing k with
  | nil => simp
  | cons x xs ih =>
    cases k with
    | zero =>
      have h1 := ih (fun y hy => h y (by simp [hy])) 0
      have h2 := h x (by simp)
      simp at h1 ⊢; omega
    | succ k =>
      have h1 := ih (fun y hy => h y (by simp [hy])) k
      simp; omega

theorem left_no {xs : List Int} {k : Nat} {n x : Int} (h : LeftIs xs k n) (hx : xs[k]? = some x) (h0 : x < 0 ∨ n < x) : meaB xs = false := by
  rw [← Bool.not_eq_true, meaB_iff]
  rintro ⟨a, -, -, d⟩
  have h1 := take_sum_le (fun y hy => (a y hy).1) (k + 1)
  rw [sum_take hx] at h1
  have h2 := a x (List.mem_of_getElem? hx)
  obtain ⟨-, b, -, -⟩ := h
  omega

theorem left_all {xs : List Int} {k : Nat} {n : Int} (h : LeftIs xs k n) (hk : xs.length ≤ k) (hw : wokB (xs.length : Int) = true) : meaB xs = (n == 0) := by
  obtain ⟨a, b, -, -⟩ := h
  rw [List.take_of_length_le hk] at a b
  obtain ⟨w1, w2⟩ := (wokB_iff _).1 hw
  apply bool_eq
  rw [meaB_iff, beq_iff_eq]
  exact ⟨fun ⟨_, _, _, d⟩ => by omega, fun e => ⟨a, by omega, by omega, by omega⟩⟩

theorem mea_wok {xs : List Int} (hw : wokB (xs.length : Int) = false) : meaB xs = false := by
  rw [← Bool.not_eq_true, meaB_iff]
  rintro ⟨-, b, c, -⟩
  rw [← Bool.not_eq_true, wokB_iff] at hw
  omega

set_option maxHeartbeats 2000000 in
theorem implMeasureOk_any (w : World) (v : Value) (xs : List Int) (hv : IRd w v xs) :
    Calls Try.prog 58 #[v] w fun r w' => r = .returned (.bool (meaB xs)) ∧ w = w' := by
  obtain ⟨A, c, rfl, hl, hm, -⟩ := id hv
  have HV := Lib.hid hv
  clear hv
  rcases Bool.eq_false_or_eq_true (wokB (xs.length : Int)) with hw | hw
  · have HW := Lib.hid hw
    go_enter Try.func58, Try.ntmps58
    go_wp2_with fail
    refine (worldsOk_any _ _).mono ?_
    rintro r w' ⟨rfl, rfl⟩
    rw [hw]
    clear hw
    go_wp2_with fail
    go_loop [3, 12] (fun t i => ∃ (k : Nat) (n : Int), i = .int .i64 (k : Int) ∧ k ≤ xs.length ∧ t = .int .i64 n ∧ Hid (LeftIs xs k n)) (fun _ i => xs.length - (intOf i).toNat)
    case atStart => exact ⟨0, 36, rfl, Nat.zero_le _, rfl, Lib.hid ⟨by simp, by simp, by omega, by omega⟩⟩
    case round =>
      obtain ⟨k, n, rfl, hk, rfl, HS⟩ := hrel
      by_cases hlt : k < xs.length
      · obtain ⟨b, off, x, rfl, -, hx, hcx⟩ := HV.out.at_ hlt
        have HX := Lib.hid hx
        clear hx
        by_cases h0 : x < 0
        · go_wp2_with fail
          go_ret
          exact ⟨ret_bool (left_no HS.out HX.out (.inl h0)).symm, rfl⟩
        · have h0' : 0 ≤ x := by omega
          clear h0
          by_cases h1 : n < x
          · go_wp2_with fail
            go_ret
            exact ⟨ret_bool (left_no HS.out HX.out (.inr h1)).symm, rfl⟩
          · have h1' : x ≤ n := by omega
            clear h1
            have hn := HS.out.2.2.2
            have HN := Lib.hid (HS.out.step HX.out h0' h1')
            go_wp2_with fail
            go_round
            case rel => exact ⟨k + 1, _, by go_num, by omega, rfl, HN⟩
            case measure => simp [intOf]; omega
      · have HM := Lib.hid (left_all HS.out (by omega) HW.out)
        go_wp2_with fail
        go_ret
        exact ⟨ret_bool HM.out.symm, rfl⟩
  · have HN := Lib.hid (mea_wok hw)
    go_enter Try.func58, Try.ntmps58
    go_wp2_with fail
    refine (worldsOk_any _ _).mono ?_
    rintro r w' ⟨rfl, rfl⟩
    rw [hw]
    go_wp2_with fail
    go_ret
    exact ⟨ret_bool HN.out.symm, rfl⟩

theorem on_next {m : List Int} (hm : Grs m) {k : Nat} {x : Int} (hx : m[k]? = some x) (e : Int) :
    ((bitI e k == 1) = true → onI (m.take k) e + x = onI (m.take (k + 1)) e) ∧ ((bitI e k == 1) = false → onI (m.take k) e = onI (m.take (k + 1)) e) := by
  have h1 := onI_take hx e
  rcases bitI_01 e k with h | h
  · rw [h] at h1; rw [h]
    refine ⟨fun h2 => by simp at h2, fun _ => by rw [h1]; omega⟩
  · rw [h] at h1; rw [h]
    refine ⟨fun _ => by rw [h1]; omega, fun h2 => by simp at h2⟩

set_option maxHeartbeats 2000000 in
theorem implGrains_any (w : World) (v : Value) (m : List Int) (e : Int) (hv : IRd w v m) (hm : Grs m) (e1 : 0 ≤ e) (e2 : e ≤ 15) :
    Calls Try.prog 41 #[v, .int .i64 e] w fun r w' => r = .returned (.int .i64 (onI m e)) ∧ w = w' := by
  obtain ⟨A, c, rfl, hl, hmx, -⟩ := id hv
  have HV := Lib.hid hv
  have HM := Lib.hid hm
  have hm4 := hm.2
  clear hv hm
  go_enter Try.func41, Try.ntmps41
  go_wp2_with fail
  go_loop [5, 10] (fun t i => ∃ (k : Nat) (n : Int), i = .int .i64 (k : Int) ∧ k ≤ m.length ∧ t = .int .i64 n ∧ Hid (n = onI (m.take k) e)) (fun _ i => m.length - (intOf i).toNat)
  case atStart => exact ⟨0, 0, rfl, Nat.zero_le _, rfl, Lib.hid (by simp [onI])⟩
  case round =>
    obtain ⟨k, n, rfl, hk, rfl, HN⟩ := hrel
    by_cases hlt : k < m.length
    · obtain ⟨b, off, x, rfl, -, hx, hcx⟩ := HV.out.at_ hlt
      have HX := Lib.hid (on_next HM.out hx e)
      obtain ⟨x1, x2⟩ := HM.out.1 x (List.mem_of_getElem? hx)
      obtain ⟨n1, n2⟩ : 0 ≤ n ∧ n ≤ 144 := by rw [HN.out]; exact grs_on HM.out e k
      clear hx
      rcases Bool.eq_false_or_eq_true (bitI e k == 1) with hb | hb
      all_goals
        have HB1 := Lib.hid hb
        go_wp2_with (go_at_call 63; refine (hasQ_any _ _ e1 e2 (by omega) _).mono ?_; rintro r w' ⟨rfl, rfl⟩)
        go_round
        case rel => exact ⟨k + 1, _, by go_num, by omega, rfl, Lib.hid (by rw [HN.out]; first | exact HX.out.1 HB1.out | exact HX.out.2 HB1.out)⟩
        case measure => simp [intOf]; omega
    · go_wp2_with fail
      go_ret
      exact ⟨ret_int (by rw [HN.out, List.take_of_length_le (by omega)]), rfl⟩

set_option maxHeartbeats 2000000 in
theorem implGrainsOn_any (w : World) (v : Value) (m : List Int) (e : Int) (hv : IRd w v m) :
    Calls Try.prog 33 #[v, .int .i64 e] w (IntPost (grI m e) w) := by
  obtain ⟨A, c, rfl, hl, hmx, -⟩ := id hv
  have HV := Lib.hid hv
  clear hv
  rcases Bool.eq_false_or_eq_true (meaB m) with h | h
  · rcases Bool.eq_false_or_eq_true (evB (m.length : Int) e) with k | k
    · have HR : Hid (grI m e = onI m e) := Lib.hid (by rw [grI, if_pos ⟨h, k⟩])
      have HE := Lib.hid (evB_15 k)
      have HG := Lib.hid (grs_of h)
      go_enter Try.func33, Try.ntmps33
      go_wp2_with fail
      refine (implMeasureOk_any _ _ _ HV.out).mono ?_
      rintro r w' ⟨rfl, rfl⟩
      rw [h]
      go_wp2_with fail
      refine (implEventOk_any _ _ _).mono ?_
      rintro r w' ⟨rfl, rfl⟩
      rw [k]
      go_wp2_with fail
      refine (implGrains_any _ _ _ e HV.out HG.out HE.out.1 HE.out.2).mono ?_
      rintro r w2 ⟨rfl, rfl⟩
      go_wp2_with fail
      go_ret
      exact ⟨ret_int HR.out.symm, Below.refl _ _⟩
    · have HR : Hid (grI m e = -1) := Lib.hid (by rw [grI, if_neg (by simp [k])])
      go_enter Try.func33, Try.ntmps33
      go_wp2_with fail
      refine (implMeasureOk_any _ _ _ HV.out).mono ?_
      rintro r w' ⟨rfl, rfl⟩
      rw [h]
      go_wp2_with fail
      refine (implEventOk_any _ _ _).mono ?_
      rintro r w' ⟨rfl, rfl⟩
      rw [k]
      go_wp2_with fail
      go_ret
      exact ⟨ret_int HR.out.symm, Below.refl _ _⟩
  · have HR : Hid (grI m e = -1) := Lib.hid (by rw [grI, if_neg (by simp [h])])
    go_enter Try.func33, Try.ntmps33
    go_wp2_with fail
    refine (implMeasureOk_any _ _ _ HV.out).mono ?_
    rintro r w' ⟨rfl, rfl⟩
    rw [h]
    go_wp2_with fail
    go_ret
    exact ⟨ret_int HR.out.symm, Below.refl _ _⟩

theorem br_next' {m g : List Int} (hm : Grs m) (hg : gokB g = true) (h : m.length = g.length) {k : Nat} {x y : Int} (hx : m[k]? = some x) (hy : g[k]? = some y) :
    brI (m.take k) (g.take k) + y * x = brI (m.take (k + 1)) (g.take (k + 1)) ∧ wrap64 (brI (m.take k) (g.take k) + y * x) = brI (m.take (k + 1)) (g.take (k + 1)) ∧ IntKind.i64.wrap (brI (m.take k) (g.take k) + y * x) = brI (m.take (k + 1)) (g.take (k + 1)) := by
  rw [Int.mul_comm y x]; exact br_next hm hg h hx hy

set_option maxHeartbeats 4000000 in
theorem implBr_any (w : World) (v u : Value) (m g : List Int) (hv : IRd w v m) (hu : IRd w u g) (hm : Grs m) (hg : gokB g = true) (hlen : m.length = g.length) :
    Calls Try.prog 59 #[v, u] w fun r w' => r = .returned (.int .i64 (brI m g)) ∧ w = w' := by
  obtain ⟨A, c, rfl, hl, hmx, -⟩ := id hv
  obtain ⟨A', c', rfl, hl', hmx', -⟩ := id hu
  have HV := Lib.hid hv
  have HU := Lib.hid hu
  have HG := Lib.hid hm
  have HK := Lib.hid hg
  have HL := Lib.hid hlen
  clear hv hu hm hg hlen
  go_enter Try.func59, Try.ntmps59
  go_wp2_with fail
  go_loop [5, 10] (fun t i => ∃ (k : Nat) (n : Int), i = .int .i64 (k : Int) ∧ k ≤ g.length ∧ t = .int .i64 n ∧ Hid (n = brI (m.take k) (g.take k))) (fun _ i => g.length - (intOf i).toNat)
  case atStart => exact ⟨0, 0, rfl, Nat.zero_le _, rfl, Lib.hid (by simp [brI])⟩
  case round =>
    obtain ⟨k, n, rfl, hk, rfl, HN⟩ := hrel
    by_cases hlt : k < g.length
    · have hlt2 : k < m.length := by have := HL.out; omega
      have hlt3 : (k : Int) < (m.length : Int) := by omega
      obtain ⟨b, off, x, rfl, -, hx, hcx⟩ := HV.out.at_ hlt2
      obtain ⟨b', off', y, rfl, -, hy, hcy⟩ := HU.out.at_ hlt
      have HX := Lib.hid (br_next' HG.out HK.out HL.out hx hy)
      obtain ⟨p1, p2⟩ := mul_36 (HG.out.1 x (List.mem_of_getElem? hx)) (gokB_at HK.out hy)
      rw [Int.mul_comm] at p1 p2
      obtain ⟨n1, n2⟩ : -144000 ≤ n ∧ n ≤ 144000 := by rw [HN.out]; exact br_take_bound HG.out HK.out HL.out k
      have hw1 : IntKind.i64.wrap (y * x) = y * x := IntWalk.i64_in _ (by omega)
      have hw2 : wrap64 (y * x) = y * x := IntWalk.wrap64_in _ (by omega)
      clear hx hy
      go_wp2_with fail
      go_round
      case rel => exact ⟨k + 1, _, by go_num, by omega, rfl, by first | exact Lib.hid (by rw [HN.out]; exact HX.out.1) | exact Lib.hid (by rw [HN.out]; exact HX.out.2.1) | exact Lib.hid (by rw [HN.out]; exact HX.out.2.2)⟩
      case measure => simp [intOf]; omega
    · go_wp2_with fail
      go_ret
      have hkm : k = g.length := by omega
      exact ⟨ret_int (by rw [HN.out, hkm, List.take_length, ← HL.out, List.take_length]), rfl⟩

set_option maxHeartbeats 4000000 in
theorem implBringsBy_any (w : World) (v u : Value) (m g : List Int) (hv : IRd w v m) (hu : IRd w u g) :
    Calls Try.prog 28 #[v, u] w (NumPost (brR m g) (brB m g) w) := by
  obtain ⟨A, c, rfl, hl, hmx, -⟩ := id hv
  obtain ⟨A', c', rfl, hl', hmx', -⟩ := id hu
  have HV := Lib.hid hv
  have HU := Lib.hid hu
  clear hv hu
  rcases Bool.eq_false_or_eq_true (meaB m) with h | h
  · rcases Bool.eq_false_or_eq_true (gokB g) with k | k
    · by_cases hlen : m.length = g.length
      · have HG := Lib.hid (grs_of h)
        have HK := Lib.hid k
        have HL := Lib.hid hlen
        have HB : Hid (brB m g = true) := Lib.hid (by rw [brB, h, k, decide_eq_true hlen]; rfl)
        have hs1 : ((m.length : Int) == (g.length : Int)) = true := by simp; omega
        have hs2 : ((m.length : Int) != (g.length : Int)) = false := by simp; omega
        clear hlen
        go_enter Try.func28, Try.ntmps28
        go_wp2_with fail
        refine (implMeasureOk_any _ _ _ HV.out).mono ?_
        rintro r w' ⟨rfl, rfl⟩
        rw [h]
        go_wp2_with fail
        refine (implGambleOk_any _ _ _ HU.out).mono ?_
        rintro r w' ⟨rfl, rfl⟩
        rw [k]
        clear h k
        go_wp2_with fail
        refine (implBr_any _ _ _ m g HV.out HU.out HG.out HK.out HL.out).mono ?_
        rintro r w' ⟨rfl, rfl⟩
        go_wp2_with fail
        go_ret2
        exact numPost_ret (br_yes HB.out) HB.out (Below.refl _ _)
      · have HB : Hid (brB m g = false) := Lib.hid (by rw [brB, decide_eq_false hlen]; simp)
        have hs1 : ((m.length : Int) == (g.length : Int)) = false := by simp; omega
        have hs2 : ((m.length : Int) != (g.length : Int)) = true := by simp; omega
        clear hlen
        go_enter Try.func28, Try.ntmps28
        go_wp2_with fail
        refine (implMeasureOk_any _ _ _ HV.out).mono ?_
        rintro r w' ⟨rfl, rfl⟩
        rw [h]
        go_wp2_with fail
        refine (implGambleOk_any _ _ _ HU.out).mono ?_
        rintro r w' ⟨rfl, rfl⟩
        rw [k]
        go_wp2_with fail
        go_ret2
        exact numPost_ret (br_no HB.out) HB.out (Below.refl _ _)
    · have HB : Hid (brB m g = false) := Lib.hid (by rw [brB, k]; simp)
      go_enter Try.func28, Try.ntmps28
      go_wp2_with fail
      refine (implMeasureOk_any _ _ _ HV.out).mono ?_
      rintro r w' ⟨rfl, rfl⟩
      rw [h]
      go_wp2_with fail
      refine (implGambleOk_any _ _ _ HU.out).mono ?_
      rintro r w' ⟨rfl, rfl⟩
      rw [k]
      go_wp2_with fail
      go_ret2
      exact numPost_ret (br_no HB.out) HB.out (Below.refl _ _)
  · have HB : Hid (brB m g = false) := Lib.hid (by rw [brB, h]; rfl)
    go_enter Try.func28, Try.ntmps28
    go_wp2_with fail
    refine (implMeasureOk_any _ _ _ HV.out).mono ?_
    rintro r w' ⟨rfl, rfl⟩
    rw [h]
    go_wp2_with fail
    go_ret2
    exact numPost_ret (br_no HB.out) HB.out (Below.refl _ _)

end Go.Proofs.Ytghmgnhiglmifaa

namespace Go.Proofs.Ytghmgnhiglmifaa
open Go.RowKit
set_option linter.unusedVariables false

theorem fit_step {m : List Int} {qs : List Qt} {k : Nat} {q : Qt} (hx : qs[k]? = some q) : fitI m (qs.take (k + 1)) = (fitI m (qs.take k) && (onI m q.1 * 6 == q.2 * 36)) := by
  rw [fitI, fitI, List.take_add_one, hx]
  simp

end Go.Proofs.Ytghmgnhiglmifaa
