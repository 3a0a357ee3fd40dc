/- The laws' helpers over quotes: toQuote, toQuoteS, szQuoteS, eqQuote, eqQuoteS, markQuoteS; and stakesOk. Conditions: stated at each. -/
import Derived.Test.YtpldhdidobggdaaQd
namespace Go.Proofs.Ytpldhdidobggdaa
open Go.RowKit
set_option linter.unusedVariables false

theorem stakes_no1 {ss : List Int} {n : Nat} (h : ss.length ≠ n) : (decide (ss.length = n) && ss.all stB) = false := by rw [decide_eq_false h]; rfl

theorem alls_take {ss : List Int} {k : Nat} {x : Int} (hx : ss[k]? = some x) (h : stB x = true) (ih : ∀ y ∈ ss.take k, stB y = true) : ∀ y ∈ ss.take (k + 1), stB y = true := by
  rw [List.take_add_one, hx]
  intro y hy
  rcases List.mem_append.1 hy with h1 | h1
  · exact ih y h1
  · simp at h1; subst h1; exact h

theorem alls_no {ss : List Int} {k : Nat} {x : Int} (hx : ss[k]? = some x) (h : stB x = false) : ss.all stB = false := by
  rw [← Bool.not_eq_true, List.all_eq_true]
  intro h2
  have := h2 x (List.mem_of_getElem? hx)
  rw [h] at this; cases this

set_option maxHeartbeats 1000000 in
theorem stakesOk_any (w : World) (v u : Value) (qs : List Qt) (ss : List Int) (hv : QRd w v qs) (hu : IRd w u ss) :
    Calls Try.prog 63 #[v, u] w fun r w' => r = .returned (.bool (decide (ss.length = qs.length) && ss.all stB)) ∧ w = w' := by
  obtain ⟨A, c, rfl, hl, hm⟩ := hv.form
  obtain ⟨A', c', rfl, hl', hm', -⟩ := id hu
  have HU := Lib.hid hu
  clear hu hv
  by_cases h : ss.length = qs.length
  · have H := Lib.hid h
    have h' : ((ss.length : Int) == (qs.length : Int)) = true := by simp; omega
    have h'' : ((ss.length : Int) != (qs.length : Int)) = false := by simp; omega
    clear h
    go_enter Try.func63, Try.ntmps63
    go_wp2_with fail
    clear h' h''
    go_loop [14] (fun i => ∃ k : Nat, i = .int .i64 k ∧ k ≤ ss.length ∧ Hid (∀ y ∈ ss.take k, stB y = true)) (fun i => ss.length - (intOf i).toNat)
    case atStart => exact ⟨0, rfl, Nat.zero_le _, Lib.hid (by simp)⟩
    case round =>
      obtain ⟨k, rfl, hk, HA⟩ := hrel
      by_cases hlt : k < ss.length
      · obtain ⟨b, off, x, rfl, -, hx, hcx⟩ := HU.out.at_ hlt
        have HX := Lib.hid hx
        clear hx
        rcases Bool.eq_false_or_eq_true (stB x) with hs | hs
        · have HS := Lib.hid hs
          go_wp2_with fail
          refine (stakeOk_any x _).mono ?_
          rintro r w' ⟨rfl, rfl⟩
          rw [hs]
          go_wp2_with fail
          go_round
          case rel => exact ⟨k + 1, by go_num, by omega, Lib.hid (alls_take HX.out HS.out HA.out)⟩
          case measure => simp [intOf]; omega
        · have HS := Lib.hid hs
          go_wp2_with fail
          refine (stakeOk_any x _).mono ?_
          rintro r w' ⟨rfl, rfl⟩
          rw [hs]
          go_wp2_with fail
          go_ret
          exact ⟨ret_bool (by rw [alls_no HX.out HS.out]; simp), rfl⟩
      · go_wp2_with fail
        go_ret
        exact ⟨ret_bool (by rw [decide_eq_true H.out, List.all_eq_true.2 (by have := HA.out; rwa [List.take_of_length_le (by omega)] at this)]; rfl), rfl⟩
  · have H := Lib.hid h
    have h' : ((ss.length : Int) == (qs.length : Int)) = false := by simp; omega
    have h'' : ((ss.length : Int) != (qs.length : Int)) = true := by simp; omega
    clear h
    go_enter Try.func63, Try.ntmps63
    go_wp2_with fail
    go_ret
    exact ⟨ret_bool (stakes_no1 H.out).symm, rfl⟩

set_option maxHeartbeats 400000 in
theorem szQuoteS_small (w : World) (A : Option Addr) (n c : Nat) (h : n ≤ 1048576) :
    Calls Try.prog 31 #[.slice A n c, .int .i64 1048576] w fun r w' => r = .returned (.int .i64 (1048576 - (n : Int))) ∧ w = w' := by
  have h1 : (n : Int) ≤ 1048576 := by omega
  go_enter Try.func31, Try.ntmps31
  go_wp2
  go_ret
  exact ⟨rfl, rfl⟩

set_option maxHeartbeats 400000 in
theorem szQuoteS_big (w : World) (A : Option Addr) (n c : Nat) (h : 1048576 < n) (hm : n ≤ 9223372036854775807) :
    Calls Try.prog 31 #[.slice A n c, .int .i64 1048576] w fun r w' => r = .returned (.int .i64 (-1)) ∧ w = w' := by
  have h1 : (1048576 : Int) < (n : Int) := by omega
  have h2 : (n : Int) ≤ 9223372036854775807 := by omega
  go_enter Try.func31, Try.ntmps31
  go_wp2
  go_ret
  exact ⟨rfl, rfl⟩

set_option maxHeartbeats 400000 in
theorem toQuote_any (q : Qt) (W : World) :
    Calls Try.prog 59 #[qV q] W fun r W' => r = .returned (qV q) ∧ Below W.heap.size W W' := by
  obtain ⟨e, p⟩ := q
  unfold qV
  go_enter Try.func59, Try.ntmps59
  go_wp2
  go_returns
  exact ⟨rfl, by go_grown⟩

theorem qeq_false1 {a b c d : Int} (h : (a != c) = true) : decide ((a, b) = (c, d)) = false := by
  rw [decide_eq_false_iff_not]
  intro e
  injection e with e1 e2
  simp [e1] at h

theorem qeq_false2 {a b c d : Int} (h : (b != d) = true) : decide ((a, b) = (c, d)) = false := by
  rw [decide_eq_false_iff_not]
  intro e
  injection e with e1 e2
  simp [e2] at h

theorem qeq_true {a b c d : Int} (h : a = c) (k : b = d) : decide ((a, b) = (c, d)) = true := by rw [h, k]; simp

set_option maxHeartbeats 400000 in
theorem eqQuote_any (q r : Qt) (W : World) :
    Calls Try.prog 60 #[qV q, qV r] W fun e W' => e = .returned (.bool (decide (q = r))) ∧ W' = (W.alloc (qBlk q)).alloc (qBlk r) := by
  obtain ⟨a, b⟩ := q
  obtain ⟨c, d⟩ := r
  unfold qV qBlk
  by_cases h1 : a = c
  · subst h1
    by_cases h2 : b = d
    · subst h2
      go_enter Try.func60, Try.ntmps60
      go_wp2
      go_ret
      exact ⟨ret_bool (by simp), rfl⟩
    · have h3 : (b != d) = true := by simpa using h2
      go_enter Try.func60, Try.ntmps60
      go_wp2
      go_ret
      exact ⟨ret_bool (qeq_false2 h3).symm, rfl⟩
  · have h3 : (a != c) = true := by simpa using h1
    go_enter Try.func60, Try.ntmps60
    go_wp2
    go_ret
    exact ⟨ret_bool (qeq_false1 h3).symm, rfl⟩

end Go.Proofs.Ytpldhdidobggdaa
