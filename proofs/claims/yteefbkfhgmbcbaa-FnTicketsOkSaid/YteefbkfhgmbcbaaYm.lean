/- The walk of the law of TicketsOk. Conditions: a row of bytes that came in. (gen_ym.py) -/
import Derived.Test.YteefbkfhgmbcbaaYh
namespace Go.Proofs.Yteefbkfhgmbcbaa
open Go.RowKit
set_option linter.unusedVariables false

theorem litk_rd (w : World) : QRd (w.alloc (.cells #[] 35)) (.slice (some ⟨w.heap.size, 0, none⟩) 0 0) [] :=
  GOwn.rd (e := 35) (base := 0) qC_len (World.ownsRow_lit w #[] 0 (Nat.zero_le _) (by unfold maxLen; omega) rfl)

set_option maxRecDepth 100000 in
set_option maxHeartbeats 2000000 in
theorem FnTicketsOk_walk (a0 : Option Addr) (len0 cap0 : Nat) (z0 : List Int) (w : World) (w0 : IsRowC .u8 w a0 len0 cap0 z0) :
    Calls Try.prog 3 #[.slice a0 len0 cap0] w fun e w' => e = .returned (.bool true) ∧ Below w.heap.size w w' := by
  by_cases hlen : 1048576 < len0
  · clear w0
    go_enter Try.func3, Try.ntmps3
    go_wp2
    go_ret
    exact ⟨rfl, Below.refl _ _⟩
  · have hlen' : decide (1048576 < len0) = false := by simpa using hlen
    go_enter Try.func3, Try.ntmps3
    go_wp2_with fail
    refine (drawTicketsOk_any _ _ _ _ _ w0).mono ?_
    rintro e w1 ⟨W, g, c, ts, rfl, hl7, ov1, B1⟩
    clear hlen hlen' w0
    have z1 := B1.size
    obtain ⟨A9, c9, e9, hlc, hm⟩ := (ov1.rd qC_len).form
    obtain rfl : c = c9 := by injection e9
    clear e9
    obtain ⟨t, ht⟩ : ∃ t, tkB W ts = t := ⟨_, rfl⟩
    go_wp2_with fail
    refine (implTicketsOk_any w1 W _ ts (ov1.rd qC_len)).mono ?_
    rintro e w2 ⟨rfl, b2⟩
    rw [ht]
    have z2 := b2.size
    have B2 := below_step B1 b2 (by omega)
    have ov2 := ov1.keep (SameAt.of_below b2)
    clear B1 b2 ov1
    go_wp2_with fail
    refine (specTicketsOk_any w2 W _ ts (ov2.rd qC_len)).mono ?_
    rintro e w3 ⟨rfl, e3⟩
    have b3 : Below w2.heap.size w2 w3 := e3 ▸ Below.refl _ _
    clear e3
    rw [ht]
    have z3 := b3.size
    have B3 := below_step B2 b3 (by omega)
    have ov3 := ov2.keep (SameAt.of_below b3)
    clear B2 b3 ov2
    cases t
    · skip
      go_wp2_with fail
      refine (implTicketsOk_any _ 1 _ [] (litk_rd w3)).mono ?_
      rintro e w4 ⟨rfl, b4⟩
      rw [show tkB 1 [] = true from by decide]
      have c4 : Below w3.heap.size w3 w4 := below_step ((Below.refl _ _).alloc (Nat.le_refl _) _) b4 (by simp)
      have z4 := c4.size
      have B4 := below_step B3 c4 (by omega)
      have ov4 := ov3.keep (SameAt.of_below c4)
      clear B3 b4 c4 ov3
      go_wp2_with fail
      refine (implTicketsOk_any _ 0 _ [] (litk_rd w4)).mono ?_
      rintro e w5 ⟨rfl, b5⟩
      rw [show tkB 0 [] = false from by decide]
      have c5 : Below w4.heap.size w4 w5 := below_step ((Below.refl _ _).alloc (Nat.le_refl _) _) b5 (by simp)
      have z5 := c5.size
      have B5 := below_step B4 c5 (by omega)
      have ov5 := ov4.keep (SameAt.of_below c5)
      clear B4 b5 c5 ov4
      go_wp2_with fail
      refine (sameTickets_any w5 _ _ ts ts (ov5.rd qC_len) (ov5.rd qC_len)).mono ?_
      rintro e w6 ⟨rfl, b6⟩
      rw [show decide (ts = ts) = true from decide_eq_true rfl]
      have z6 := b6.size
      have B6 := below_step B5 b6 (by omega)
      have ov6 := ov5.keep (SameAt.of_below b6)
      clear B5 b6 ov5
      go_wp2_with fail
      refine (alive_any _).mono ?_
      rintro e w' ⟨rfl, rfl⟩
      go_wp2_with fail
      go_ret
      exact ⟨ret_bool (by simp), B6⟩
    · by_cases hz : ts.length = 0
      · obtain rfl : ts = [] := List.eq_nil_of_length_eq_zero hz
        clear hz
        simp only [List.length_nil] at ov3 hlc
        simp only [List.length_nil]
        go_wp2_with fail
        refine (implTicketsOk_any _ 1 _ [] (litk_rd w3)).mono ?_
        rintro e w4 ⟨rfl, b4⟩
        rw [show tkB 1 [] = true from by decide]
        have c4 : Below w3.heap.size w3 w4 := below_step ((Below.refl _ _).alloc (Nat.le_refl _) _) b4 (by simp)
        have z4 := c4.size
        have B4 := below_step B3 c4 (by omega)
        have ov4 := ov3.keep (SameAt.of_below c4)
        clear B3 b4 c4 ov3
        go_wp2_with fail
        refine (implTicketsOk_any _ 0 _ [] (litk_rd w4)).mono ?_
        rintro e w5 ⟨rfl, b5⟩
        rw [show tkB 0 [] = false from by decide]
        have c5 : Below w4.heap.size w4 w5 := below_step ((Below.refl _ _).alloc (Nat.le_refl _) _) b5 (by simp)
        have z5 := c5.size
        have B5 := below_step B4 c5 (by omega)
        have ov5 := ov4.keep (SameAt.of_below c5)
        clear B4 b5 c5 ov4
        go_wp2_with fail
        refine (sameTickets_any w5 _ _ [] [] (ov5.rd qC_len) (ov5.rd qC_len)).mono ?_
        rintro e w6 ⟨rfl, b6⟩
        rw [show decide (([] : List Qt) = []) = true from decide_eq_true rfl]
        have z6 := b6.size
        have B6 := below_step B5 b6 (by omega)
        have ov6 := ov5.keep (SameAt.of_below b6)
        clear B5 b6 ov5
        go_wp2_with fail
        refine (alive_any _).mono ?_
        rintro e w' ⟨rfl, rfl⟩
        go_wp2_with fail
        go_ret
        exact ⟨ret_bool (by simp), B6⟩
      · have hz1 : (1 : Int) ≤ (ts.length : Int) := by omega
        have hz4 : (ts.length : Int) ≤ 7 := by omega
        have hz0 : ((ts.length : Int) == 0) = false := by simpa using (by omega : ¬ ((ts.length : Int) = 0))
        go_wp2_with fail
        refine (implTicketsOk_any _ 1 _ [] (litk_rd w3)).mono ?_
        rintro e w4 ⟨rfl, b4⟩
        rw [show tkB 1 [] = true from by decide]
        have c4 : Below w3.heap.size w3 w4 := below_step ((Below.refl _ _).alloc (Nat.le_refl _) _) b4 (by simp)
        have z4 := c4.size
        have B4 := below_step B3 c4 (by omega)
        have ov4 := ov3.keep (SameAt.of_below c4)
        clear B3 b4 c4 ov3
        go_wp2_with fail
        refine (implTicketsOk_any _ 0 _ [] (litk_rd w4)).mono ?_
        rintro e w5 ⟨rfl, b5⟩
        rw [show tkB 0 [] = false from by decide]
        have c5 : Below w4.heap.size w4 w5 := below_step ((Below.refl _ _).alloc (Nat.le_refl _) _) b5 (by simp)
        have z5 := c5.size
        have B5 := below_step B4 c5 (by omega)
        have ov5 := ov4.keep (SameAt.of_below c5)
        clear B4 b5 c5 ov4
        go_wp2_with fail
        refine (sameTickets_any w5 _ _ ts ts (ov5.rd qC_len) (ov5.rd qC_len)).mono ?_
        rintro e w6 ⟨rfl, b6⟩
        rw [show decide (ts = ts) = true from decide_eq_true rfl]
        have z6 := b6.size
        have B6 := below_step B5 b6 (by omega)
        have ov6 := ov5.keep (SameAt.of_below b6)
        clear B5 b6 ov5
        obtain ⟨k, hk⟩ : ∃ k, ts.length = k + 1 := ⟨ts.length - 1, by omega⟩
        have ht2 : tkB W (ts.take k) = true := tkB_take ht k
        have HT2 := Lib.hid ht2
        have hk1 : (ts.length : Int) - 1 = (k : Int) := by omega
        have hk2 : (k : Int) ≤ (c : Int) := by omega
        have hk3 : k ≤ ts.length := by omega
        have hw1 : IntKind.i64.wrap ((ts.length : Int) - 1) = (k : Int) := by rw [hk1]; exact IntWalk.i64_in _ (by omega)
        clear ht ht2 hk
        go_wp2_with fail
        refine (implTicketsOk_any w6 W _ (ts.take k) (GRd.take7 (ov6.rd qC_len) (by omega))).mono ?_
        rintro e w7 ⟨rfl, b7⟩
        rw [HT2.out]
        have z7 := b7.size
        have B7 := below_step B6 b7 (by omega)
        have ov7 := ov6.keep (SameAt.of_below b7)
        clear B6 b7 ov6
        go_wp2_with fail
        refine (alive_any _).mono ?_
        rintro e w' ⟨rfl, rfl⟩
        go_wp2_with fail
        go_ret
        exact ⟨ret_bool (by simp), B7⟩

end Go.Proofs.Yteefbkfhgmbcbaa
