/- Contracts of WorstOf, BestOf, BetterOk, LosesOk. Conditions: rows that read as lists. -/
import Derived.Test.YtfdgelikmhaagaaGa
namespace Go.Proofs.Ytfdgelikmhaagaa
open Go.RowKit
set_option linter.unusedVariables false

set_option maxHeartbeats 400000 in
theorem lesser_any (a b : Int) (W : World) :
    Calls Try.prog 76 #[.int .i64 a, .int .i64 b] W fun r W' => r = .returned (.int .i64 (minI a b)) ∧ W = W' := by
  by_cases h : b < a
  · go_enter Try.func76, Try.ntmps76
    go_wp2
    go_ret
    exact ⟨ret_int (by unfold minI; split <;> omega), rfl⟩
  · have h2 : a ≤ b := by omega
    go_enter Try.func76, Try.ntmps76
    go_wp2
    go_ret
    exact ⟨ret_int (by unfold minI; split <;> omega), rfl⟩

set_option maxHeartbeats 400000 in
theorem greater_any (a b : Int) (W : World) :
    Calls Try.prog 77 #[.int .i64 a, .int .i64 b] W fun r W' => r = .returned (.int .i64 (maxI a b)) ∧ W = W' := by
  by_cases h : a < b
  · go_enter Try.func77, Try.ntmps77
    go_wp2
    go_ret
    exact ⟨ret_int (by unfold maxI; split <;> omega), rfl⟩
  · have h2 : b ≤ a := by omega
    go_enter Try.func77, Try.ntmps77
    go_wp2
    go_ret
    exact ⟨ret_int (by unfold maxI; split <;> omega), rfl⟩

/-- the function value lesser -/
def lesserF : Value := .func (.func 76) #[] #[]

/-- the function value greater -/
def greaterF : Value := .func (.func 77) #[] #[]

set_option maxHeartbeats 1000000 in
theorem foldLesser_any (w : World) (v : Value) (xs : List Int) (s : Int) (hv : IRd w v xs) :
    Calls Try.prog 75 #[v, .int .i64 s, lesserF] w fun r w' => r = .returned (.int .i64 (xs.foldl minI s)) ∧ w = w' := by
  obtain ⟨A, c, rfl, hl, hm, -⟩ := id hv
  have HV := Lib.hid hv
  clear hv
  unfold lesserF
  go_enter Try.func75, Try.ntmps75
  go_wp2_with fail
  go_loop [1, 11] (fun t i => ∃ (k : Nat) (n : Int), i = .int .i64 k ∧ k ≤ xs.length ∧ t = .int .i64 n ∧ Hid (n = (xs.take k).foldl minI s)) (fun _ i => xs.length - (intOf i).toNat)
  case atStart => exact ⟨0, s, rfl, Nat.zero_le _, rfl, Lib.hid (by simp)⟩
  case round =>
    obtain ⟨k, n, rfl, hk, rfl, HN⟩ := hrel
    by_cases hlt : k < xs.length
    · obtain ⟨b, off, x, rfl, -, hx, hcx⟩ := HV.out.at_ hlt
      have HX := Lib.hid hx
      clear hx
      go_wp2_with (go_at_call 76; refine (lesser_any _ _ _).mono ?_; rintro e w' ⟨rfl, rfl⟩)
      go_round
      case rel => exact ⟨k + 1, _, by go_num, by omega, rfl, Lib.hid (by rw [foldl_take HX.out, ← HN.out])⟩
      case measure => simp [intOf]; omega
    · go_wp2_with fail
      go_ret
      exact ⟨ret_int (by rw [HN.out, List.take_of_length_le (by omega)]), rfl⟩

set_option maxHeartbeats 1000000 in
theorem foldGreater_any (w : World) (v : Value) (xs : List Int) (s : Int) (hv : IRd w v xs) :
    Calls Try.prog 75 #[v, .int .i64 s, greaterF] w fun r w' => r = .returned (.int .i64 (xs.foldl maxI s)) ∧ w = w' := by
  obtain ⟨A, c, rfl, hl, hm, -⟩ := id hv
  have HV := Lib.hid hv
  clear hv
  unfold greaterF
  go_enter Try.func75, Try.ntmps75
  go_wp2_with fail
  go_loop [1, 11] (fun t i => ∃ (k : Nat) (n : Int), i = .int .i64 k ∧ k ≤ xs.length ∧ t = .int .i64 n ∧ Hid (n = (xs.take k).foldl maxI s)) (fun _ i => xs.length - (intOf i).toNat)
  case atStart => exact ⟨0, s, rfl, Nat.zero_le _, rfl, Lib.hid (by simp)⟩
  case round =>
    obtain ⟨k, n, rfl, hk, rfl, HN⟩ := hrel
    by_cases hlt : k < xs.length
    · obtain ⟨b, off, x, rfl, -, hx, hcx⟩ := HV.out.at_ hlt
      have HX := Lib.hid hx
      clear hx
      go_wp2_with (go_at_call 77; refine (greater_any _ _ _).mono ?_; rintro e w' ⟨rfl, rfl⟩)
      go_round
      case rel => exact ⟨k + 1, _, by go_num, by omega, rfl, Lib.hid (by rw [foldl_take HX.out, ← HN.out])⟩
      case measure => simp [intOf]; omega
    · go_wp2_with fail
      go_ret
      exact ⟨ret_int (by rw [HN.out, List.take_of_length_le (by omega)]), rfl⟩

/-- a number and whether it is told -/
def NumOk (n : Int) (b : Bool) (w : World) (e : Ending) (w' : World) : Prop := e = .returned (.tuple #[.int .i64 n, .bool b]) ∧ w = w'

theorem numOk_ret {n m : Int} {b c : Bool} {w : World} (h : n = m) (k : b = c) : NumOk n b w (.returned (.tuple #[.int .i64 m, .bool c])) w := by subst h; subst k; exact ⟨rfl, rfl⟩

theorem worst_no {xs : List Int} (h : gokB xs = false) : worstI xs = 0 := by rw [worstI, h]; rfl

theorem best_no {xs : List Int} (h : gokB xs = false) : bestI xs = 0 := by rw [bestI, h]; rfl

theorem worst_yes {xs : List Int} (h : gokB xs = true) : worstI xs = xs.foldl minI 1000 := by rw [worstI, if_pos h]

theorem best_yes {xs : List Int} (h : gokB xs = true) : bestI xs = xs.foldl maxI (-1000) := by rw [bestI, if_pos h]

set_option maxHeartbeats 1000000 in
theorem implWorstOf_any (w : World) (v : Value) (xs : List Int) (hv : IRd w v xs) :
    Calls Try.prog 30 #[v] w (NumOk (worstI xs) (gokB xs) w) := by
  have HV := Lib.hid hv
  clear hv
  rcases Bool.eq_false_or_eq_true (gokB xs) with h | h
  · have H := Lib.hid h
    go_enter Try.func30, Try.ntmps30
    go_wp2_with fail
    refine (implGambleOk_any _ _ _ HV.out).mono ?_
    rintro e w' ⟨rfl, rfl⟩
    clear h
    rw [H.out]
    go_wp2_with fail
    refine (foldLesser_any _ _ _ _ HV.out).mono ?_
    rintro e w' ⟨rfl, rfl⟩
    go_wp2_with fail
    go_ret2
    exact numOk_ret (worst_yes H.out) H.out
  · have H := Lib.hid h
    go_enter Try.func30, Try.ntmps30
    go_wp2_with fail
    refine (implGambleOk_any _ _ _ HV.out).mono ?_
    rintro e w' ⟨rfl, rfl⟩
    clear h
    rw [H.out]
    go_wp2_with fail
    go_ret2
    exact numOk_ret (worst_no H.out) H.out

set_option maxHeartbeats 1000000 in
theorem implBestOf_any (w : World) (v : Value) (xs : List Int) (hv : IRd w v xs) :
    Calls Try.prog 31 #[v] w (NumOk (bestI xs) (gokB xs) w) := by
  have HV := Lib.hid hv
  clear hv
  rcases Bool.eq_false_or_eq_true (gokB xs) with h | h
  · have H := Lib.hid h
    go_enter Try.func31, Try.ntmps31
    go_wp2_with fail
    refine (implGambleOk_any _ _ _ HV.out).mono ?_
    rintro e w' ⟨rfl, rfl⟩
    clear h
    rw [H.out]
    go_wp2_with fail
    refine (foldGreater_any _ _ _ _ HV.out).mono ?_
    rintro e w' ⟨rfl, rfl⟩
    go_wp2_with fail
    go_ret2
    exact numOk_ret (best_yes H.out) H.out
  · have H := Lib.hid h
    go_enter Try.func31, Try.ntmps31
    go_wp2_with fail
    refine (implGambleOk_any _ _ _ HV.out).mono ?_
    rintro e w' ⟨rfl, rfl⟩
    clear h
    rw [H.out]
    go_wp2_with fail
    go_ret2
    exact numOk_ret (best_no H.out) H.out

set_option maxHeartbeats 1000000 in
theorem implLosesOk_any (w : World) (v : Value) (xs : List Int) (hv : IRd w v xs) :
    Calls Try.prog 33 #[v] w fun r w' => r = .returned (.bool (losesB xs)) ∧ w = w' := by
  have HV := Lib.hid hv
  clear hv
  rcases Bool.eq_false_or_eq_true (gokB xs) with h | h
  · have H := Lib.hid h
    go_enter Try.func33, Try.ntmps33
    go_wp2_with fail
    refine (implBestOf_any _ _ _ HV.out).mono ?_
    rintro e w' ⟨rfl, rfl⟩
    clear h
    rw [H.out]
    go_wp2_with fail
    go_ret
    exact ⟨ret_bool (by rw [losesB, H.out]; rfl), rfl⟩
  · have H := Lib.hid h
    go_enter Try.func33, Try.ntmps33
    go_wp2_with fail
    refine (implBestOf_any _ _ _ HV.out).mono ?_
    rintro e w' ⟨rfl, rfl⟩
    clear h
    rw [H.out]
    go_wp2_with fail
    go_ret
    exact ⟨ret_bool (by rw [losesB, H.out]; rfl), rfl⟩

end Go.Proofs.Ytfdgelikmhaagaa
