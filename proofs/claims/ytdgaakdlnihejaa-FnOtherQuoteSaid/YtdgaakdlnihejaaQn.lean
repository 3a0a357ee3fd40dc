/- The walk of the law of OtherQuote. Conditions: rows of bytes that came in. -/
import Derived.Test.YtdgaakdlnihejaaQl
import Derived.Deep.RegionHeld3
namespace Go.Proofs.Ytdgaakdlnihejaa
open Go.RowKit
set_option linter.unusedVariables false

/-- two quotes that lie in blocks of the law's own -/
def TwoQ (W : World) (g h : Nat) (q x : Qt) (wr : World) : Prop := Below W.heap.size W wr ∧ Blk wr g 24 #[.int .i64 q.1, .int .i64 q.2] ∧ Blk wr h 24 #[.int .i64 x.1, .int .i64 x.2]

theorem TwoQ.keep {W wr w' : World} {g h : Nat} {q x : Qt} (t : TwoQ W g h q x wr) (hb : Below wr.heap.size wr w') : TwoQ W g h q x w' :=
  ⟨below_step t.1 hb t.1.size, t.2.1.more (hb.block g t.2.1.lt), t.2.2.more (hb.block h t.2.2.lt)⟩

theorem TwoQ.drew {W wr : World} {g h : Nat} {q x : Qt} (t : TwoQ W g h q x wr) : TwoQ W g h q x wr.drew := ⟨t.1.drew, t.2⟩

theorem TwoQ.cells {W wr : World} {g h : Nat} {q x : Qt} (t : TwoQ W g h q x wr) :
    (wr.cell? ⟨g, 0, none⟩ = some (.int .i64 q.1) ∧ wr.cell? ⟨g, 1, none⟩ = some (.int .i64 q.2)) ∧ wr.cell? ⟨h, 0, none⟩ = some (.int .i64 x.1) ∧ wr.cell? ⟨h, 1, none⟩ = some (.int .i64 x.2) :=
  ⟨⟨t.2.1.cell 0, t.2.1.cell 1⟩, t.2.2.cell 0, t.2.2.cell 1⟩

theorem apart_tab1 : ∀ k : Fin 16, (k : Nat) ≤ 1 → (bits BinOp.and IntKind.i64 (1 - ((k : Nat) : Int)) ((k : Nat) : Int) == 0) = true := by decide +kernel

theorem apart_tab3 : ∀ k : Fin 16, (k : Nat) ≤ 3 → (bits BinOp.and IntKind.i64 (3 - ((k : Nat) : Int)) ((k : Nat) : Int) == 0) = true := by decide +kernel

theorem apart_tab7 : ∀ k : Fin 16, (k : Nat) ≤ 7 → (bits BinOp.and IntKind.i64 (7 - ((k : Nat) : Int)) ((k : Nat) : Int) == 0) = true := by decide +kernel

theorem apart_tab15 : ∀ k : Fin 16, (k : Nat) ≤ 15 → (bits BinOp.and IntKind.i64 (15 - ((k : Nat) : Int)) ((k : Nat) : Int) == 0) = true := by decide +kernel

theorem other_apart {n : Int} {q : Qt} (h : qokB n q = true) : apB n (otherR n q).1 q.1 = true := by
  rw [otherR_yes h]
  have h1 := ((qokB_iff n q).1 h).1
  have h' := (evB_iff _ _).1 h1
  show apB n (notI n q.1) q.1 = true
  rw [apB_tt (ev_not h1) h1, notI_eq h1]
  obtain ⟨k, hk⟩ := fin16 (evB_15 h1).1 (evB_15 h1).2
  rw [hk] at h' ⊢
  rcases allI_of h'.1 h'.2.1 with ⟨-, h2⟩ | ⟨-, h2⟩ | ⟨-, h2⟩ | ⟨-, h2⟩ <;> rw [h2] at h' ⊢
  · have := apart_tab1 k (by omega); simpa using this
  · have := apart_tab3 k (by omega); simpa using this
  · have := apart_tab7 k (by omega); simpa using this
  · have := apart_tab15 k (by omega); simpa using this

theorem other_price {n : Int} {q : Qt} (h : qokB n q = true) : (otherR n q).2 + q.2 = 6 := by
  rw [otherR_yes h]
  show 6 - q.2 + q.2 = 6
  omega

set_option maxHeartbeats 8000000 in
theorem FnOtherQuote_walk (a0 : Option Addr) (len0 cap0 : Nat) (z0 : List Int) (W : World) (w0 : IsRowC .u8 W a0 len0 cap0 z0) :
    Calls Try.prog 6 #[.slice a0 len0 cap0] W fun e w' => e = .returned (.bool true) ∧ Below W.heap.size W w' := by
  by_cases hlen : 1048576 < len0
  · clear w0
    go_enter Try.func6, Try.ntmps6
    go_wp2
    go_ret
    exact ⟨rfl, Below.refl _ _⟩
  · have hlen' : decide (1048576 < len0) = false := by simpa using hlen
    go_enter Try.func6, Try.ntmps6
    go_wp2_with fail
    refine (drawOtherQuote_any _ _ _ _ _ w0).mono ?_
    rintro e w1 ⟨n, ⟨a, b⟩, rfl, b1⟩
    unfold qV
    have B1 := Lib.hid (b1.alloc b1.size (.cells #[.int .i64 a, .int .i64 b] 24))
    have K1 := Lib.hid (blk_alloc w1 #[.int .i64 a, .int .i64 b] 24)
    clear hlen hlen' w0 b1
    go_wp2_with fail
    refine (implOtherQuote_any n (a, b) _).mono ?_
    rintro e w2 ⟨rfl, b2⟩
    obtain ⟨⟨c, d⟩, hx⟩ : ∃ x, otherR n (a, b) = x := ⟨_, rfl⟩
    rw [hx]
    unfold qV
    have T2 : Hid (TwoQ W w1.heap.size w2.heap.size (a, b) (c, d) (w2.alloc (.cells #[.int .i64 c, .int .i64 d] 24))) := Lib.hid ⟨(below_step B1.out b2 B1.out.size).alloc (below_step B1.out b2 B1.out.size).size _, (K1.out.more (b2.block _ K1.out.lt)).alloc _, blk_alloc _ _ _⟩
    clear b2 K1 B1
    obtain ⟨⟨hc0, hc1⟩, hd0, hd1⟩ := T2.out.cells
    go_wp2_with fail
    generalize w2.alloc (.cells #[.int .i64 c, .int .i64 d] 24) = w3 at T2 hc0 hc1 hd0 hd1 ⊢
    have HX := Lib.hid hx
    have TD := Lib.hid T2.out.drew
    go_region_held3 (fun w' => (w'.cell? ⟨w1.heap.size, 0, none⟩ = some (.int .i64 a) ∧ w'.cell? ⟨w1.heap.size, 1, none⟩ = some (.int .i64 b)) ∧ w'.cell? ⟨w2.heap.size, 0, none⟩ = some (.int .i64 c) ∧ w'.cell? ⟨w2.heap.size, 1, none⟩ = some (.int .i64 d)) (first | exact T4.out.cells | exact TD.out.cells) (first | (go_at_call 28; refine (specOtherQuote_any n (a, b) _).mono ?_; rintro e w4 ⟨rfl, b4⟩; rw [hx]; unfold qV; have T4 := Lib.hid (TD.out.keep b4); clear b4; obtain ⟨⟨ic0, ic1⟩, id0, id1⟩ := T4.out.cells))
    all_goals
      clear hc0 hc1 hd0 hd1
      go_wp2_with fail
      refine (specQuoteOk_any n (a, b) _).mono ?_
      rintro e w5 ⟨rfl, b5⟩
      have T5 := Lib.hid (T4.out.keep b5)
      clear b5 ic0 ic1 id0 id1
      obtain ⟨⟨ic0, ic1⟩, id0, id1⟩ := T5.out.cells
      rcases Bool.eq_false_or_eq_true (qokB n (a, b)) with ht | ht
      · have HT := Lib.hid ht
        rw [ht]
        have hback : otherR n (c, d) = (a, b) := by rw [← HX.out]; exact otherR_back ht
        have hap : apB n c a = true := by have := other_apart ht; rw [HX.out] at this; exact this
        have hsum : d + b = 6 := by have := other_price ht; rw [HX.out] at this; exact this
        obtain ⟨-, hb1, hb2, -, -, -, -⟩ := qok_true ht
        have hd1 : 0 ≤ d := by omega
        have hd2 : d ≤ 6 := by omega
        have TE := Lib.hid T5.out.drew
        clear ht hx
        go_wp2_with fail
        go_region_held3 (fun w' => (w'.cell? ⟨w1.heap.size, 0, none⟩ = some (.int .i64 a) ∧ w'.cell? ⟨w1.heap.size, 1, none⟩ = some (.int .i64 b)) ∧ w'.cell? ⟨w2.heap.size, 0, none⟩ = some (.int .i64 c) ∧ w'.cell? ⟨w2.heap.size, 1, none⟩ = some (.int .i64 d)) (first | exact T6.out.cells | exact TE.out.cells) (first
          | (go_at_call 16; refine (implOtherQuote_any n (c, d) _).mono ?_; rintro e w6 ⟨rfl, b6⟩; rw [hback]; unfold qV; have T6 := Lib.hid (TE.out.keep b6); clear b6; obtain ⟨⟨jc0, jc1⟩, jd0, jd1⟩ := T6.out.cells)
          | (go_at_call 29; refine (implApartOk_any _ _ _ _).mono ?_; rintro e w' ⟨rfl, rfl⟩; rw [hap]))
        all_goals
          go_wp2_with fail
          go_ret
          exact ⟨ret_bool (by simp), T6.out.1⟩
      · rw [ht]
        have hcd : (c, d) = ((0 : Int), (0 : Int)) := by rw [← HX.out]; exact other_no ht
        injection hcd with h1 h2
        subst h1
        subst h2
        go_wp2_with fail
        refine (alive_any _).mono ?_
        rintro e w' ⟨rfl, rfl⟩
        go_wp2_with fail
        go_ret
        exact ⟨ret_bool (by simp), T5.out.1⟩

end Go.Proofs.Ytdgaakdlnihejaa
