/- The walks of the laws of QuoteOk, OtherQuote, GainOf. Conditions: rows of bytes that came in. -/
import Derived.Test.YtdgaakdlnihejaaQi
import Derived.Test.YtdgaakdlnihejaaDt
namespace Go.Proofs.Ytdgaakdlnihejaa
open Go.RowKit
set_option linter.unusedVariables false

theorem sum_yes {xs ys : List Int} (h : sumB xs ys = true) : sumR xs ys = sumL xs ys := by rw [sumR, if_pos h]

theorem times_is {xs : List Int} {t : Int} (h : timesB xs t = true) : timesR xs t = mulL xs t := by rw [timesR, if_pos h]

theorem otherR_yes {w : Int} {q : Qt} (h : qokB w q = true) : otherR w q = otherQ w q := by rw [otherR, if_pos h]

theorem otherR_ok {w : Int} {q : Qt} (h : qokB w q = true) : qokB w (otherR w q) = true := by rw [otherR_yes h]; exact qok_other h

theorem otherR_back {w : Int} {q : Qt} (h : qokB w q = true) : otherR w (otherR w q) = q := by rw [otherR_yes (otherR_ok h), otherR_yes h]; exact other_other h

/-- what the law of GainOf wants -/
theorem gain_law {n s : Int} {q : Qt} (h : gainB n q s = true) :
    gainR n (otherR n q) (-s) = gainL n q s ∧ sumB (gainL n q s) (gainR n q (-s)) = true ∧ sumR (gainL n q s) (gainR n q (-s)) = mulL (gainL n q s) 0 ∧ timesB (gainL n q s) 0 = true ∧ timesR (gainL n q s) 0 = mulL (gainL n q s) 0 := by
  have hq : qokB n q = true := by rw [gainB, Bool.and_eq_true] at h; exact h.1
  obtain ⟨h1, h2⟩ := gain_sum h
  have h3 := gainR_yes (gainB_neg h)
  have h4 := times_gok (gain_gok h) (t := 0) (.inr (.inr rfl))
  refine ⟨?_, ?_, ?_, h4, times_is h4⟩
  · rw [otherR_yes hq, gainR_yes (gainB_other h), gain_other hq]
  · rw [h3]; exact h1
  · rw [h3, sum_yes h1, h2]

set_option maxHeartbeats 4000000 in
theorem FnQuoteOk_walk (a0 : Option Addr) (len0 cap0 : Nat) (z0 : List Int) (W : World) (w0 : IsRowC .u8 W a0 len0 cap0 z0) :
    Calls Try.prog 3 #[.slice a0 len0 cap0] W fun e w' => e = .returned (.bool true) ∧ Below W.heap.size W w' := by
  by_cases hlen : 1048576 < len0
  · clear w0
    go_enter Try.func3, Try.ntmps3
    go_wp2
    go_ret
    exact ⟨rfl, Below.refl _ _⟩
  · have hlen' : decide (1048576 < len0) = false := by simpa using hlen
    go_enter Try.func3, Try.ntmps3
    go_wp2_with fail
    refine (drawQuoteOk_any _ _ _ _ _ w0).mono ?_
    rintro e w1 ⟨n, ⟨a, b⟩, rfl, b1⟩
    unfold qV
    have HC : Hid (∀ wr, Below (w1.alloc (.cells #[.int .i64 a, .int .i64 b] 24)).heap.size (w1.alloc (.cells #[.int .i64 a, .int .i64 b] 24)) wr → wr.cell? ⟨w1.heap.size, 0, none⟩ = some (.int .i64 a) ∧ wr.cell? ⟨w1.heap.size, 1, none⟩ = some (.int .i64 b)) := Lib.hid (fun wr h => box_cells (q := (a, b)) h)
    have HW : Hid (Below W.heap.size W (w1.alloc (.cells #[.int .i64 a, .int .i64 b] 24))) := Lib.hid (b1.alloc b1.size _)
    clear hlen hlen' w0 b1
    rcases Bool.eq_false_or_eq_true (qokB n (a, b)) with ht | ht
    · go_wp2_with fail
      generalize w1.alloc (.cells #[.int .i64 a, .int .i64 b] 24) = w at HC HW ⊢
      have B0 : Below w.heap.size w w := Below.refl _ _
      have z0 : w.heap.size ≤ w.heap.size := Nat.le_refl _
      obtain ⟨hc0, hc1⟩ := HC.out w B0
      go_wp2_with fail
      refine (implQuoteOk_any n (a, b) _).mono ?_
      rintro e w1 ⟨rfl, b1⟩
      rw [ht]
      have z1 := b1.size
      have B1 := below_step B0 b1 (by omega)
      clear hc0 hc1
      clear B0 b1
      obtain ⟨hc0, hc1⟩ := HC.out w1 B1
      go_wp2_with fail
      refine (specQuoteOk_any n (a, b) _).mono ?_
      rintro e w2 ⟨rfl, b2⟩
      rw [ht]
      have z2 := b2.size
      have B2 := below_step B1 b2 (by omega)
      clear hc0 hc1
      clear B1 b2
      obtain ⟨hc0, hc1⟩ := HC.out w2 B2
      go_wp2_with fail
      refine (implOtherQuote_any n (a, b) _).mono ?_
      rintro e w3 ⟨rfl, b3⟩
      have z3 := b3.size
      have B3 := below_step B2 b3 (by omega)
      clear hc0 hc1
      clear B2 b3
      obtain ⟨hc0, hc1⟩ := HC.out w3 B3
      go_wp2_with fail
      refine (implQuoteOk_any n (otherR n (a, b)) _).mono ?_
      rintro e w4 ⟨rfl, b4⟩
      rw [otherR_ok ht]
      have z4 := b4.size
      have B4 := below_step B3 b4 (by omega)
      clear hc0 hc1
      clear B3 b4
      go_wp2_with fail
      refine (implQuoteOk_any 1 (0, 0) _).mono ?_
      rintro e w5 ⟨rfl, b5⟩
      rw [show qokB 1 (0, 0) = true from by decide]
      have z5 := b5.size
      have B5 := below_step B4 b5 (by omega)
      clear B4 b5
      go_wp2_with fail
      refine (implQuoteOk_any 1 (0, 7) _).mono ?_
      rintro e w6 ⟨rfl, b6⟩
      rw [show qokB 1 (0, 7) = false from by decide]
      have z6 := b6.size
      have B6 := below_step B5 b6 (by omega)
      clear B5 b6
      go_wp2_with fail
      go_ret
      exact ⟨ret_bool (by simp), below_step HW.out B6 HW.out.size⟩
    · go_wp2_with fail
      generalize w1.alloc (.cells #[.int .i64 a, .int .i64 b] 24) = w at HC HW ⊢
      have B0 : Below w.heap.size w w := Below.refl _ _
      have z0 : w.heap.size ≤ w.heap.size := Nat.le_refl _
      obtain ⟨hc0, hc1⟩ := HC.out w B0
      go_wp2_with fail
      refine (implQuoteOk_any n (a, b) _).mono ?_
      rintro e w1 ⟨rfl, b1⟩
      rw [ht]
      have z1 := b1.size
      have B1 := below_step B0 b1 (by omega)
      clear hc0 hc1
      clear B0 b1
      obtain ⟨hc0, hc1⟩ := HC.out w1 B1
      go_wp2_with fail
      refine (specQuoteOk_any n (a, b) _).mono ?_
      rintro e w2 ⟨rfl, b2⟩
      rw [ht]
      have z2 := b2.size
      have B2 := below_step B1 b2 (by omega)
      clear hc0 hc1
      clear B1 b2
      go_wp2_with fail
      refine (implQuoteOk_any 1 (0, 0) _).mono ?_
      rintro e w3 ⟨rfl, b3⟩
      rw [show qokB 1 (0, 0) = true from by decide]
      have z3 := b3.size
      have B3 := below_step B2 b3 (by omega)
      clear B2 b3
      go_wp2_with fail
      refine (implQuoteOk_any 1 (0, 7) _).mono ?_
      rintro e w4 ⟨rfl, b4⟩
      rw [show qokB 1 (0, 7) = false from by decide]
      have z4 := b4.size
      have B4 := below_step B3 b4 (by omega)
      clear B3 b4
      go_wp2_with fail
      go_ret
      exact ⟨ret_bool (by simp), below_step HW.out B4 HW.out.size⟩

end Go.Proofs.Ytdgaakdlnihejaa
