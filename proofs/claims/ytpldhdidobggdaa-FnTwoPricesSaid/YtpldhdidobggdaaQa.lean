/- Contracts of the functions on quotes that hand back no row. Conditions: none, or stated at each. -/
import Derived.Test.YtpldhdidobggdaaGf
import Derived.Test.YtpldhdidobggdaaQm
import Derived.Handy
namespace Go.Proofs.Ytpldhdidobggdaa
open Go.RowKit
set_option linter.unusedVariables false

/-- a quote as a value -/
def qV (q : Qt) : Value := .agg #[.int .i64 q.1, .int .i64 q.2]

set_option maxHeartbeats 400000 in
theorem priceOk_any (x : Int) (W : World) :
    Calls Try.prog 75 #[.int .i64 x] W fun r W' => r = .returned (.bool (inB x 0 6)) ∧ W = W' := by
  by_cases h1 : 0 ≤ x
  · by_cases h2 : x ≤ 6
    · go_enter Try.func75, Try.ntmps75
      go_wp2
      go_ret
      exact ⟨ret_bool (by symm; simp [inB, h1, h2]), rfl⟩
    · have h3 : decide (x ≤ 6) = false := by simpa using h2
      go_enter Try.func75, Try.ntmps75
      go_wp2
      go_ret
      exact ⟨ret_bool (by symm; simp [inB, h1]; omega), rfl⟩
  · have h3 : decide (0 ≤ x) = false := by simpa using h1
    go_enter Try.func75, Try.ntmps75
    go_wp2
    go_ret
    exact ⟨ret_bool (by symm; simp [inB]; omega), rfl⟩

set_option maxHeartbeats 400000 in
theorem stakeOk_any (x : Int) (W : World) :
    Calls Try.prog 80 #[.int .i64 x] W fun r W' => r = .returned (.bool (stB x)) ∧ W = W' := by
  by_cases h1 : -9 ≤ x
  · by_cases h2 : x ≤ 9
    · go_enter Try.func80, Try.ntmps80
      go_wp2
      go_ret
      exact ⟨ret_bool (by symm; simp [stB, inB, h1, h2]), rfl⟩
    · have h3 : decide (x ≤ 9) = false := by simpa using h2
      go_enter Try.func80, Try.ntmps80
      go_wp2
      go_ret
      exact ⟨ret_bool (by symm; simp [stB, inB, h1]; omega), rfl⟩
  · have h3 : decide (-9 ≤ x) = false := by simpa using h1
    go_enter Try.func80, Try.ntmps80
    go_wp2
    go_ret
    exact ⟨ret_bool (by symm; simp [stB, inB]; omega), rfl⟩

theorem qok_mk {w e p : Int} {b c : Bool} (h : evB w e = b) (k : inB p 0 6 = c) : qokB w (e, p) = (b && c) := by rw [qokB, h, k]

/-- the block of a quote that was handed over -/
def qBlk (q : Qt) : Obj := .cells #[.int .i64 q.1, .int .i64 q.2] 39

set_option maxHeartbeats 400000 in
theorem implQuoteOk_w (w : Int) (q : Qt) (W : World) :
    Calls Try.prog 53 #[.int .i64 w, qV q] W fun r W' => r = .returned (.bool (qokB w q)) ∧ W' = W.alloc (qBlk q) := by
  obtain ⟨e, p⟩ := q
  unfold qV
  rcases Bool.eq_false_or_eq_true (evB w e) with h | h
  all_goals
    go_enter Try.func53, Try.ntmps53
    go_wp2_with (first
        | (go_at_call 47; refine (implEventOk_any _ _ _).mono ?_; rintro e w' ⟨rfl, rfl⟩)
        | (go_at_call 75; refine (priceOk_any _ _).mono ?_; rintro e w' ⟨rfl, rfl⟩))
    go_ret
    exact ⟨ret_bool (by rw [qok_mk h rfl]; simp), rfl⟩

theorem implQuoteOk_any (w : Int) (q : Qt) (W : World) :
    Calls Try.prog 53 #[.int .i64 w, qV q] W fun r W' => r = .returned (.bool (qokB w q)) ∧ Below W.heap.size W W' := by
  refine (implQuoteOk_w w q W).mono ?_
  rintro e w' ⟨rfl, rfl⟩
  exact ⟨rfl, (Below.refl _ _).alloc (Nat.le_refl _) _⟩

set_option maxHeartbeats 400000 in
theorem specQuoteOk_w (w : Int) (q : Qt) (W : World) :
    Calls Try.prog 30 #[.int .i64 w, qV q] W fun r W' => r = .returned (.bool (qokB w q)) ∧ W' = W.alloc (qBlk q) := by
  obtain ⟨e, p⟩ := q
  unfold qV
  rcases Bool.eq_false_or_eq_true (evB w e) with h | h
  all_goals
    go_enter Try.func30, Try.ntmps30
    go_wp2_with (first
        | (go_at_call 57; refine (specEventOk_any _ _ _).mono ?_; rintro e w' ⟨rfl, rfl⟩)
        | (go_at_call 58; refine (l1In_any _ _ _ _).mono ?_; rintro e w' ⟨rfl, rfl⟩))
    go_ret
    exact ⟨ret_bool (by rw [qok_mk h rfl]; simp), rfl⟩

theorem specQuoteOk_any (w : Int) (q : Qt) (W : World) :
    Calls Try.prog 30 #[.int .i64 w, qV q] W fun r W' => r = .returned (.bool (qokB w q)) ∧ Below W.heap.size W W' := by
  refine (specQuoteOk_w w q W).mono ?_
  rintro e w' ⟨rfl, rfl⟩
  exact ⟨rfl, (Below.refl _ _).alloc (Nat.le_refl _) _⟩

theorem qok_true {w e p : Int} (h : qokB w (e, p) = true) : evB w e = true ∧ 0 ≤ p ∧ p ≤ 6 ∧ 1 ≤ w ∧ w ≤ 4 ∧ 0 ≤ e ∧ e ≤ 15 := by
  have h1 := (qokB_iff _ _).1 h
  have h2 := (evB_iff _ _).1 h1.1
  have h3 := evB_15 h1.1
  exact ⟨h1.1, h1.2.1, h1.2.2, h2.1, h2.2.1, h3.1, h3.2⟩

theorem other_yes {w e p : Int} (h : qokB w (e, p) = true) : otherR w (e, p) = (notI w e, 6 - p) := by rw [otherR, if_pos h]; rfl

theorem other_no {w : Int} {q : Qt} (h : qokB w q = false) : otherR w q = (0, 0) := by rw [otherR, h]; rfl

theorem ret_q {a b c d : Int} (h : a = c) (k : b = d) : Ending.returned (.agg #[.int .i64 a, .int .i64 b]) = .returned (.agg #[.int .i64 c, .int .i64 d]) := by rw [h, k]

end Go.Proofs.Ytpldhdidobggdaa
