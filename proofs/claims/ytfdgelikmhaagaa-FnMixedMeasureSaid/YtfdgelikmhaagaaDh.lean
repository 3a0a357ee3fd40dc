/- What is drawn for gambles: the walk of one gamble. Conditions: a reader; at most four worlds. -/
import Derived.Test.YtfdgelikmhaagaaDg
namespace Go.Proofs.Ytfdgelikmhaagaa
open Go.RowKit
set_option linter.unusedVariables false

theorem four_int {x : Int} : ∀ u ∈ [Value.int .i64 x, .int .i64 x, .int .i64 x, .int .i64 x], u.oneCell' = true := by
  intro u hu
  simp only [List.mem_cons, List.not_mem_nil, or_false, or_self] at hu
  subst hu
  rfl

theorem amt_zeros {xs : List Int} {B : Int} (h : Amt B xs) (hB : 0 ≤ B) : Amt B (xs ++ [0, 0, 0, 0]) := by
  intro x hx
  rcases List.mem_append.1 hx with h1 | h1
  · exact h x h1
  · simp at h1; subst h1; omega

set_option maxHeartbeats 8000000 in
theorem l20Gamble_any (w : World) (R P : Nat) (n m : Int) (hP : P ≤ 100000) (h : Rd w R P) (h1 : 1 ≤ n) (h2 : n ≤ 4) (m1 : 1 ≤ m) (m2 : m ≤ 1000) :
    Calls Try.prog 72 #[.pointer (some ⟨R, 0, none⟩), .int .i64 n, .int .i64 m] w (GamPost w R (P + 12)) := by
  obtain ⟨i0, hi, hz0, hz1, hz2⟩ := info_parts Try_intinfo
  obtain ⟨nw, rfl⟩ : ∃ k : Nat, n = (k : Int) := ⟨n.toNat, by omega⟩
  have hn4 : nw ≤ 4 := by omega
  have hn1 : 1 ≤ nw := by omega
  have H0 : Hid (GamRel w R P (.slice (some ⟨w.heap.size, 0, none⟩) 0 0) [] (w.alloc (.cells #[] 3))) := Lib.hid (GamRel.start h)
  clear h h1 h2
  go_enter Try.func72, Try.ntmps72
  go_wp2_with fail
  go_loopw [7, 8] (fun p c wr => ∃ (k Q : Nat) (xs : List Int), c = .int .i64 k ∧ k ≤ nw ∧ Q ≤ P + 2 * k ∧ xs.length = k ∧ Hid (Amt 12 xs) ∧ Hid (GamRel w R Q p xs wr)) (fun _ c _ => nw - (intOf c).toNat)
  case atStart => exact ⟨0, P, [], rfl, Nat.zero_le _, by omega, rfl, Lib.hid (fun x hx => by cases hx), H0⟩
  case round =>
    obtain ⟨k, Q, xs, rfl, hk, hQ, hl, HA, HR⟩ := hrel
    clear H0
    by_cases hlt : k < nw
    · have hlt' : (k : Int) < (nw : Int) := by omega
      go_wp2_with fail
      refine (pick_any _ R Q _ (by omega) HR.out.1).mono ?_
      rintro e w4 ⟨v1, rfl, ⟨p1, p2, -⟩, k1⟩
      have p2 := p2 (by decide)
      have H4 := Lib.hid (HR.out.picked k1)
      clear k1
      go_wp2_with fail
      refine (pick_any _ R (Q + 1) _ (by omega) H4.out.1).mono ?_
      rintro e w5 ⟨v2, rfl, ⟨p3, p4, -⟩, k1⟩
      have p4 := p4 (by decide)
      have H5 := Lib.hid (H4.out.picked k1)
      clear k1 H4
      have hown0 := H5.out.2.1
      unfold IOwn at hown0
      have hown := Lib.hid (World.ownsRow.alloc (w := w5) hown0 (.cells #[.int .i64 (v1 - 6 - v2 / 8 * 6)] 3))
      have hsz := H5.out.2.2.1.size
      clear hown0
      go_wp2_with (at_builtin; refine wpList_append_own _ rfl _ _ 23 rfl w.heap.size 3 i0 (.int .i64 0) 1 8 Try.underlying23 hi hz0 hz1 hz2 rfl (by decide) _ _ _ rfl hown.out ⟨w5.heap.size, 0, none⟩ 1 1 [.int .i64 (v1 - 6 - v2 / 8 * 6)] rfl rfl ?c1 one_int ?c3 ?c4 ?c5 ?_)
      case c1 => exact one_new w5 _ _
      case c3 => unfold maxLen; omega
      case c4 => omega
      case c5 => simp; omega
      intro v' w' hown' hgrow _
      have HL := Lib.hid (H5.out.append (show IOwn w' w.heap.size v' (xs ++ [v1 - 6 - v2 / 8 * 6]) from by simpa [IOwn, hl] using hown') (grown_after (w := w5) ((Below.refl _ w5).alloc (Nat.le_refl _) _) hgrow))
      have HA' := Lib.hid (HA.out.snoc (y := v1 - 6 - v2 / 8 * 6) (by omega))
      clear hown' hgrow hown
      go_wp2_with fail
      go_roundw
      case rel => exact ⟨k + 1, Q + 2, xs ++ [v1 - 6 - v2 / 8 * 6], by go_num, by omega, by omega, by simp; omega, HA', HL⟩
      case measure => simp [intOf]; omega
    · have hge : (nw : Int) ≤ (k : Int) := by omega
      obtain rfl : k = nw := by omega
      go_wp2_with fail
      refine (odd_any _ R Q _ m1 (by omega) (by omega) HR.out.1).mono ?_
      rintro e w5 ⟨b, rfl, k1⟩
      have H5 := Lib.hid (HR.out.picked k1)
      clear k1
      cases b
      · go_wp2_with fail
        refine (odd_any _ R (Q + 1) _ (by decide) (by decide) (by omega) H5.out.1).mono ?_
        rintro e w6 ⟨b, rfl, k1⟩
        have H6 := Lib.hid (H5.out.picked k1)
        clear k1 H5
        cases b
        · go_wp2_with fail
          go_ret
          exact ⟨_, _, rfl, H6.out.mono (by omega), by omega, HA.out.mono (by decide)⟩
        · obtain ⟨g, cap, rfl, hc1, hc2⟩ := H6.out.form (by omega)
          rw [hl] at H6 HR hc1 ⊢
          have H7 : Hid (GamRel w R (Q + 2) (.slice (some ⟨g, 0, none⟩) k cap) (mul90 xs 0) w6) := Lib.hid (by rw [mul90_zero]; exact H6.out)
          clear H6 HR
          go_wp2_with fail
          go_loopw [9] (fun c wr => ∃ j : Nat, c = .int .i64 j ∧ j ≤ k ∧ Hid (GamRel w R (Q + 2) (.slice (some ⟨g, 0, none⟩) k cap) (mul90 xs j) wr)) (fun c _ => k - (intOf c).toNat)
          case atStart => exact ⟨0, rfl, Nat.zero_le _, H7⟩
          case round =>
            obtain ⟨j, rfl, hj, H8⟩ := hrel
            clear H7
            by_cases hjlt : j < k
            · have hjl' : (j : Int) < (k : Int) := by omega
              obtain ⟨x, hx⟩ : ∃ x, xs[j]? = some x := ⟨_, List.getElem?_eq_getElem (by omega)⟩
              have hcell := H8.out.cell (mul90_at hx)
              have hfz := H8.out.frozen j
              obtain ⟨hx1, hx2⟩ := HA.out.at_ hx
              have H9 := Lib.hid (H8.out.store (k := j) (x := x * 90) (by rw [mul90_len _ _ (by omega)]; exact hl))
              have HS := Lib.hid (mul90_set hx)
              clear hx
              go_wp2_with fail
              go_roundw
              case rel => exact ⟨j + 1, by go_num, by omega, (show Hid _ from by have := H9.out; rw [HS.out] at this; exact this)⟩
              case measure => simp [intOf]; omega
            · have hjl' : (k : Int) ≤ (j : Int) := by omega
              go_wp2_with fail
              go_ret
              exact ⟨_, _, rfl, H8.out.mono (by omega), by rw [mul90_len _ _ (by omega)]; omega, mul90_amt HA.out _⟩
      · go_wp2_with fail
        refine (pick_any _ R (Q + 1) _ (by omega) H5.out.1).mono ?_
        rintro e w6 ⟨v3, rfl, ⟨p5, p6, -⟩, k1⟩
        have p6 := p6 (by decide)
        have H6 := Lib.hid (H5.out.picked k1)
        clear k1 H5
        obtain rfl | rfl | rfl : v3 = 0 ∨ v3 = 1 ∨ v3 = 2 := by omega
        · have H7 := Lib.hid H6.out.anew
          go_wp2_with fail
          go_ret
          exact ⟨_, _, rfl, H7.out.mono (by omega), by simp, fun x hx => by cases hx⟩
        · have hown0 := H6.out.2.1
          unfold IOwn at hown0
          have hown := Lib.hid (World.ownsRow.alloc (w := w6) hown0 (.cells #[.int .i64 1001] 3))
          have hsz := H6.out.2.2.1.size
          clear hown0
          go_wp2_with (at_builtin; refine wpList_append_own _ rfl _ _ 23 rfl w.heap.size 3 i0 (.int .i64 0) 1 8 Try.underlying23 hi hz0 hz1 hz2 rfl (by decide) _ _ _ rfl hown.out ⟨w6.heap.size, 0, none⟩ 1 1 [.int .i64 1001] rfl rfl ?c1 one_int ?c3 ?c4 ?c5 ?_)
          case c1 => exact one_new w6 _ _
          case c3 => unfold maxLen; omega
          case c4 => omega
          case c5 => simp; omega
          intro v' w' hown' hgrow _
          have HL := Lib.hid (H6.out.append (show IOwn w' w.heap.size v' (xs ++ [1001]) from by simpa [IOwn, hl] using hown') (grown_after (w := w6) ((Below.refl _ w6).alloc (Nat.le_refl _) _) hgrow))
          clear hown' hgrow hown
          go_wp2_with fail
          go_ret
          exact ⟨_, _, rfl, HL.out.mono (by omega), by simp; omega, (HA.out.mono (by decide)).snoc (by decide)⟩
        · have hown0 := H6.out.2.1
          unfold IOwn at hown0
          have hown := Lib.hid (World.ownsRow.alloc (w := w6) hown0 (.cells #[.int .i64 0, .int .i64 0, .int .i64 0, .int .i64 0] 3))
          have hsz := H6.out.2.2.1.size
          clear hown0
          go_wp2_with (at_builtin; refine wpList_append_own _ rfl _ _ 23 rfl w.heap.size 3 i0 (.int .i64 0) 1 8 Try.underlying23 hi hz0 hz1 hz2 rfl (by decide) _ _ _ rfl hown.out ⟨w6.heap.size, 0, none⟩ 4 4 [.int .i64 0, .int .i64 0, .int .i64 0, .int .i64 0] rfl rfl ?c1 four_int ?c3 ?c4 ?c5 ?_)
          case c1 => exact World.news_of_block (heap_alloc_new w6 _)
          case c3 => unfold maxLen; omega
          case c4 => omega
          case c5 => simp; omega
          intro v' w' hown' hgrow _
          have HL := Lib.hid (H6.out.append (show IOwn w' w.heap.size v' (xs ++ [0, 0, 0, 0]) from by simpa [IOwn, hl] using hown') (grown_after (w := w6) ((Below.refl _ w6).alloc (Nat.le_refl _) _) hgrow))
          clear hown' hgrow hown
          go_wp2_with fail
          go_ret
          exact ⟨_, _, rfl, HL.out.mono (by omega), by simp; omega, amt_zeros (HA.out.mono (by decide)) (by decide)⟩

end Go.Proofs.Ytfdgelikmhaagaa
