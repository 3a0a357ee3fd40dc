/- spec.TermOk, spec.l9Starts, spec.l9Event, spec.EventOfTerm. Conditions: rows that read as lists. -/
import Derived.Test.YtfdlfgokoponmaaDoorXa
import Derived.Test.YtfdlfgokoponmaaDoorXg
namespace Go.Proofs.YtfdlfgokoponmaaDoor
open Go.RowKit
set_option linter.unusedVariables false

theorem cnt_succ {t : List Mk} {k : Nat} {m : Mk} (hx : t[k]? = some m) : cnt (t.take (k + 1)) = cntS (cnt (t.take k)) m := by
  rw [List.take_add_one, hx]
  exact cnt_snoc _ _

theorem cnt_no {t : List Mk} {k : Nat} (h : cnt (t.take k) = none) : tmB t = false := by
  have h2 : cnt t = none := by
    rw [← List.take_append_drop k t]
    unfold cnt at h ⊢
    rw [List.foldl_append, h]
    exact cnt_none _
  rw [tmB, h2]
  rfl

theorem tmB_end {t : List Mk} {k n : Nat} (hk : t.length ≤ k) (h : cnt (t.take k) = some n) : tmB t = (decide (n = 1) && decide (t.length ≤ 40)) := by
  rw [List.take_of_length_le hk] at h
  rw [tmB, h]
  congr 1
  exact decide_eq_decide.2 ⟨fun e => Option.some.inj e, fun e => by rw [e]⟩

set_option maxHeartbeats 4000000 in
theorem specTermOk_any (w : World) (v : Value) (t : List Mk) (hv : QRd w v t) :
    Calls Tryd.prog 50 #[v] w (BoolPost (tmB t) w) := by
  obtain ⟨A, c, rfl, hl, hm⟩ := hv.form
  have HV := Lib.hid hv
  clear hv
  go_enter Tryd.func50, Tryd.ntmps50
  go_wp2_with fail
  go_loopw [3, 4] (fun p i wr => ∃ k n : Nat, i = .int .i64 k ∧ p = .int .i64 n ∧ n ≤ k ∧ k ≤ t.length ∧ Hid (cnt (t.take k) = some n) ∧ Hid (w = wr)) (fun _ i _ => t.length - (intOf i).toNat)
  case atStart => exact ⟨0, 0, rfl, rfl, Nat.le_refl _, Nat.zero_le _, Lib.hid rfl, Lib.hid rfl⟩
  case round =>
    obtain ⟨k, n, rfl, rfl, hn, hk, HA, HB⟩ := hrel
    obtain rfl := HB.out
    clear HB
    by_cases hlt : k < t.length
    · obtain ⟨b, off, ⟨x0, x1⟩, rfl, -, hx, hc0, hc1⟩ := QRd.at_ HV.out hlt
      have HX := Lib.hid hx
      dsimp only at hc0 hc1
      clear hx
      have hno : Hid (cntS (some n) (x0, x1) = none) → Hid (tmB t = false) := fun h => Lib.hid (cnt_no (k := k + 1) (by rw [cnt_succ HX.out, HA.out]; exact h.out))
      have hyes : ∀ n' : Nat, Hid (cntS (some n) (x0, x1) = some n') → Hid (cnt (t.take (k + 1)) = some n') := fun n' h => Lib.hid (by rw [cnt_succ HX.out, HA.out]; exact h.out)
      have HNO := Lib.hid hno
      have HYES := Lib.hid hyes
      clear hno hyes HX HA
      by_cases e0 : x0 = 0
      · subst e0
        rcases Bool.eq_false_or_eq_true (inB x1 0 1) with hi | hi
        · have hY := HYES.out (n + 1) (Lib.hid (by
            have h1 := (inB_iff _ _ _).1 hi
            rcases (by omega : x1 = 0 ∨ x1 = 1) with rfl | rfl <;> simp [cntS]))
          clear HYES HNO
          go_wp2_with fail
          refine (l1In_any x1 _ _ _).mono ?_
          rintro r w' ⟨rfl, rfl⟩
          rw [hi]
          go_wp2_with fail
          go_roundw
          case rel => exact ⟨k + 1, n + 1, by go_num, by go_num, by omega, by omega, hY, Lib.hid (by trivial)⟩
          case measure => simp [intOf]; omega
        · have hN := HNO.out (Lib.hid (by
            have h1 : ¬ (0 ≤ x1 ∧ x1 ≤ 1) := by rw [← inB_iff, hi]; simp
            have h2 : x1 ≠ 0 := by omega
            have h3 : x1 ≠ 1 := by omega
            simp [cntS, h2, h3]))
          clear HYES HNO
          go_wp2_with fail
          refine (l1In_any x1 _ _ _).mono ?_
          rintro r w' ⟨rfl, rfl⟩
          rw [hi]
          go_wp2_with fail
          go_ret
          exact ⟨ret_bool hN.out.symm, Below.refl _ _⟩
      · by_cases e1 : x0 = 1 ∧ x1 = 0
        · obtain ⟨rfl, rfl⟩ := e1
          by_cases hn1 : 1 ≤ n
          · have hY := HYES.out n (Lib.hid (by simp [cntS, hn1]))
            clear HYES HNO
            have hn1' : (1 : Int) ≤ (n : Int) := by omega
            go_wp2_with fail
            go_roundw
            case rel => exact ⟨k + 1, n, by go_num, rfl, by omega, by omega, hY, Lib.hid (by trivial)⟩
            case measure => simp [intOf]; omega
          · have hN := HNO.out (Lib.hid (by simp [cntS]; omega))
            clear HYES HNO
            have hn1' : (n : Int) < 1 := by omega
            go_wp2_with fail
            go_ret
            exact ⟨ret_bool hN.out.symm, Below.refl _ _⟩
        · by_cases e2 : (x0 = 2 ∨ x0 = 3) ∧ x1 = 0
          · obtain ⟨e2, rfl⟩ := e2
            by_cases hn1 : 2 ≤ n
            · have hY := HYES.out (n - 1) (Lib.hid (by rcases e2 with rfl | rfl <;> simp [cntS, hn1]))
              clear HYES HNO e0 e1
              have hn1' : (2 : Int) ≤ (n : Int) := by omega
              rcases e2 with rfl | rfl
              all_goals
                go_wp2_with fail
                go_roundw
                case rel => exact ⟨k + 1, n - 1, by go_num, by go_num, by omega, by omega, hY, Lib.hid (by trivial)⟩
                case measure => simp [intOf]; omega
            · have hN := HNO.out (Lib.hid (by rcases e2 with rfl | rfl <;> simp [cntS] <;> omega))
              clear HYES HNO e0 e1
              have hn1' : (n : Int) < 2 := by omega
              rcases e2 with rfl | rfl
              all_goals
                go_wp2_with fail
                go_ret
                exact ⟨ret_bool hN.out.symm, Below.refl _ _⟩
          · have hN := HNO.out (Lib.hid (by
              unfold cntS
              simp only [Prod.mk.injEq]
              (repeat' split) <;> first | rfl | omega))
            clear HYES HNO
            have hc : (¬ x0 = 1 ∧ ¬ x0 = 2 ∧ ¬ x0 = 3) ∨ ¬ x1 = 0 := by omega
            have E0 := Lib.hid e0
            clear e1 e2 e0
            rcases hc with ⟨h1, h2, h3⟩ | h1
            · have h0 : (x0 == 0) = false := by simpa using E0.out
              go_wp2_with fail
              go_ret
              exact ⟨ret_bool hN.out.symm, Below.refl _ _⟩
            · have h0 : (x0 == 0) = false := by simpa using E0.out
              go_wp2_with fail
              all_goals
                go_ret
                exact ⟨ret_bool hN.out.symm, Below.refl _ _⟩
    · have hT := tmB_end (t := t) (k := k) (n := n) (by omega) HA.out
      have HT := Lib.hid hT
      clear hT HA
      by_cases h1 : n = 1
      · subst h1
        by_cases h40 : t.length ≤ 40
        · have h40' : (t.length : Int) ≤ 40 := by omega
          go_wp2_with fail
          go_ret
          exact ⟨ret_bool (by rw [HT.out, decide_eq_true h40]; rfl), Below.refl _ _⟩
        · have h40' : (40 : Int) < (t.length : Int) := by omega
          go_wp2_with fail
          go_ret
          exact ⟨ret_bool (by rw [HT.out, decide_eq_false h40]; simp; omega), Below.refl _ _⟩
      · have h1' : ((n : Int) == 1) = false := by simp; omega
        have HT' : Hid (tmB t = false) := Lib.hid (by rw [HT.out, decide_eq_false h1]; rfl)
        clear HT h1
        go_wp2_with fail
        go_ret
        exact ⟨ret_bool HT'.out.symm, Below.refl _ _⟩

end Go.Proofs.YtfdlfgokoponmaaDoor
