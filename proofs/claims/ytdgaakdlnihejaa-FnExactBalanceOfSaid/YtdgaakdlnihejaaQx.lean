/- The walks of the exact laws of chapter 3. Conditions: stated at each. -/
import Derived.Test.YtdgaakdlnihejaaQi
namespace Go.Proofs.Ytdgaakdlnihejaa
open Go.RowKit
set_option linter.unusedVariables false

/-- the cells of a quote that was handed over to a law, in any world behind -/
theorem law_cells {W wr : World} {a b : Int} (h : Below (W.alloc (.cells #[.int .i64 a, .int .i64 b] 49)).heap.size (W.alloc (.cells #[.int .i64 a, .int .i64 b] 49)) wr) :
    wr.cell? ⟨W.heap.size, 0, none⟩ = some (.int .i64 a) ∧ wr.cell? ⟨W.heap.size, 1, none⟩ = some (.int .i64 b) := by
  have hb := h.block W.heap.size (by simp)
  have hn : (W.alloc (.cells #[.int .i64 a, .int .i64 b] 49)).heap[W.heap.size]? = some (.cells #[.int .i64 a, .int .i64 b] 49) := heap_alloc_new W _
  have hB : Blk wr W.heap.size 49 #[.int .i64 a, .int .i64 b] := hb.trans hn
  exact ⟨hB.cell 0, hB.cell 1⟩

set_option maxHeartbeats 4000000 in
theorem exactQuoteOk_any (W : World) (n : Int) (q : Qt)  :
    Calls Try.prog 8 #[.int .i64 n, qV q] W fun e w' => e = .returned (.bool true) ∧ Below W.heap.size W w' := by
  obtain ⟨a, b⟩ := q
  have HC : Hid (∀ wr, Below (W.alloc (.cells #[.int .i64 a, .int .i64 b] 49)).heap.size (W.alloc (.cells #[.int .i64 a, .int .i64 b] 49)) wr → wr.cell? ⟨W.heap.size, 0, none⟩ = some (.int .i64 a) ∧ wr.cell? ⟨W.heap.size, 1, none⟩ = some (.int .i64 b)) := Lib.hid (fun wr h => law_cells h)
  have HW : Hid (Below W.heap.size W (W.alloc (.cells #[.int .i64 a, .int .i64 b] 49))) := Lib.hid ((Below.refl _ _).alloc (Nat.le_refl _) _)
  obtain ⟨t, ht⟩ : ∃ t, qokB n (a, b) = t := ⟨_, rfl⟩
  show Calls _ _ #[.int .i64 n, .agg #[.int .i64 a, .int .i64 b]] _ _
  go_enter Try.func8, Try.ntmps8
  go_wp2_with fail
  generalize W.alloc (.cells #[.int .i64 a, .int .i64 b] 49) = w at HC HW ⊢
  have B0 : Below w.heap.size w w := Below.refl _ _
  have z0 : w.heap.size ≤ w.heap.size := Nat.le_refl _
  obtain ⟨hc0, hc1⟩ := HC.out w B0
  go_wp2_with fail
  refine (toQuote_any (a, b) _).mono ?_
  rintro e w1 ⟨rfl, b1⟩
  unfold qV
  have z1 := b1.size
  have B1 := below_step B0 b1 (by omega)
  clear hc0 hc1
  clear B0 b1
  obtain ⟨hc0, hc1⟩ := HC.out w1 B1
  go_wp2_with fail
  refine (specQuoteOk_any n (a, b) _).mono ?_
  rintro e w2 ⟨rfl, b2⟩
  rw [ht]
  have z2 := b2.size
  have B2 := below_step B1 b2 (by omega)
  clear hc0 hc1
  clear B1 b2
  obtain ⟨hc0, hc1⟩ := HC.out w2 B2
  go_wp2_with fail
  refine (toQuote_any (a, b) _).mono ?_
  rintro e w3 ⟨rfl, b3⟩
  unfold qV
  have z3 := b3.size
  have B3 := below_step B2 b3 (by omega)
  clear hc0 hc1
  clear B2 b3
  obtain ⟨hc0, hc1⟩ := HC.out w3 B3
  go_wp2_with fail
  refine (implQuoteOk_any n (a, b) _).mono ?_
  rintro e w4 ⟨rfl, b4⟩
  rw [ht]
  have z4 := b4.size
  have B4 := below_step B3 b4 (by omega)
  clear hc0 hc1
  clear B3 b4
  cases t
  all_goals
    go_wp2_with fail
    go_ret
    exact ⟨rfl, below_step HW.out B4 HW.out.size⟩

theorem FnExactQuoteOk_walk (a0 : Int) (q1 : Qt) (w : World) (w0 : (Lit.int .i64 a0).wf = true) :
    Calls Try.prog 8 #[.int .i64 a0, qV q1] w fun e w' => e = .returned (.bool true) ∧ Below w.heap.size w w' :=
  exactQuoteOk_any w a0 q1 

set_option maxHeartbeats 4000000 in
theorem exactOtherQuote_any (W : World) (n : Int) (q : Qt)  :
    Calls Try.prog 11 #[.int .i64 n, qV q] W fun e w' => e = .returned (.bool true) ∧ Below W.heap.size W w' := by
  obtain ⟨a, b⟩ := q
  have HC : Hid (∀ wr, Below (W.alloc (.cells #[.int .i64 a, .int .i64 b] 49)).heap.size (W.alloc (.cells #[.int .i64 a, .int .i64 b] 49)) wr → wr.cell? ⟨W.heap.size, 0, none⟩ = some (.int .i64 a) ∧ wr.cell? ⟨W.heap.size, 1, none⟩ = some (.int .i64 b)) := Lib.hid (fun wr h => law_cells h)
  have HW : Hid (Below W.heap.size W (W.alloc (.cells #[.int .i64 a, .int .i64 b] 49))) := Lib.hid ((Below.refl _ _).alloc (Nat.le_refl _) _)
  obtain ⟨t, ht⟩ : ∃ t, otherR n (a, b) = t := ⟨_, rfl⟩
  show Calls _ _ #[.int .i64 n, .agg #[.int .i64 a, .int .i64 b]] _ _
  go_enter Try.func11, Try.ntmps11
  go_wp2_with fail
  generalize W.alloc (.cells #[.int .i64 a, .int .i64 b] 49) = w at HC HW ⊢
  have B0 : Below w.heap.size w w := Below.refl _ _
  obtain ⟨hc0, hc1⟩ := HC.out w B0
  go_wp2_with fail
  refine (toQuote_any (a, b) _).mono ?_
  rintro e w1 ⟨rfl, b1⟩
  clear hc0 hc1 B0
  unfold qV
  go_wp2_with fail
  refine (specOtherQuote_any n (a, b) _).mono ?_
  rintro e w2 ⟨rfl, b2⟩
  rw [ht]
  unfold qV
  have B2 := (below_step b1 b2 b1.size).alloc (below_step b1 b2 b1.size).size (.cells #[.int .i64 t.1, .int .i64 t.2] 24)
  have HD : Hid (∀ wr, Below (w2.alloc (.cells #[.int .i64 t.1, .int .i64 t.2] 24)).heap.size (w2.alloc (.cells #[.int .i64 t.1, .int .i64 t.2] 24)) wr → wr.cell? ⟨w2.heap.size, 0, none⟩ = some (.int .i64 t.1) ∧ wr.cell? ⟨w2.heap.size, 1, none⟩ = some (.int .i64 t.2)) := Lib.hid (fun wr h => box_cells h)
  clear b1 b2
  obtain ⟨hc0, hc1⟩ := HC.out _ B2
  have HB2 := Lib.hid B2
  clear B2
  go_wp2_with fail
  refine (toQuote_any (a, b) _).mono ?_
  rintro e w3 ⟨rfl, b3⟩
  clear hc0 hc1
  unfold qV
  go_wp2_with fail
  refine (implOtherQuote_any n (a, b) _).mono ?_
  rintro e w4 ⟨rfl, b4⟩
  rw [ht]
  unfold qV
  have D4 := (below_step b3 b4 b3.size).alloc (below_step b3 b4 b3.size).size (.cells #[.int .i64 t.1, .int .i64 t.2] 24)
  have HB4 := Lib.hid (below_step HB2.out D4 HB2.out.size)
  obtain ⟨hd0, hd1⟩ := HD.out _ D4
  clear b3 b4 D4
  go_wp2_with fail
  refine (eqQuote_any t t _).mono ?_
  rintro e w5 ⟨rfl, rfl⟩
  rw [show decide (t = t) = true from by simp]
  go_wp2_with fail
  go_ret
  exact ⟨rfl, below_step HW.out ((HB4.out.alloc HB4.out.size _).alloc ((HB4.out.alloc HB4.out.size _).size) _) HW.out.size⟩

theorem FnExactOtherQuote_walk (a0 : Int) (q1 : Qt) (w : World) (w0 : (Lit.int .i64 a0).wf = true) :
    Calls Try.prog 11 #[.int .i64 a0, qV q1] w fun e w' => e = .returned (.bool true) ∧ Below w.heap.size w w' :=
  exactOtherQuote_any w a0 q1 

theorem gainR_len (n : Int) (q : Qt) (s : Int) : (gainR n q s).length ≤ 4 := by
  unfold gainR
  split
  · next h => rw [gainL_len]; have := gain_wok h; omega
  · simp

set_option maxHeartbeats 4000000 in
theorem exactGainOf_any (W : World) (n : Int) (q : Qt) (s : Int) :
    Calls Try.prog 10 #[.int .i64 n, qV q, .int .i64 s] W fun e w' => e = .returned (.bool true) ∧ Below W.heap.size W w' := by
  obtain ⟨a, b⟩ := q
  have HC : Hid (∀ wr, Below (W.alloc (.cells #[.int .i64 a, .int .i64 b] 49)).heap.size (W.alloc (.cells #[.int .i64 a, .int .i64 b] 49)) wr → wr.cell? ⟨W.heap.size, 0, none⟩ = some (.int .i64 a) ∧ wr.cell? ⟨W.heap.size, 1, none⟩ = some (.int .i64 b)) := Lib.hid (fun wr h => law_cells h)
  have HW : Hid (Below W.heap.size W (W.alloc (.cells #[.int .i64 a, .int .i64 b] 49))) := Lib.hid ((Below.refl _ _).alloc (Nat.le_refl _) _)
  have hL : (gainR n (a, b) s).length ≤ 4 := gainR_len n (a, b) s
  show Calls _ _ #[.int .i64 n, .agg #[.int .i64 a, .int .i64 b], .int .i64 s] _ _
  go_enter Try.func10, Try.ntmps10
  go_wp2_with fail
  generalize W.alloc (.cells #[.int .i64 a, .int .i64 b] 49) = w at HC HW ⊢
  have B0 : Below w.heap.size w w := Below.refl _ _
  have z0 : w.heap.size ≤ w.heap.size := Nat.le_refl _
  obtain ⟨hc0, hc1⟩ := HC.out w B0
  go_wp2_with fail
  refine (toQuote_any (a, b) _).mono ?_
  rintro e w1 ⟨rfl, b1⟩
  unfold qV
  have z1 := b1.size
  have B1 := below_step B0 b1 (by omega)
  clear hc0 hc1
  clear B0 b1
  obtain ⟨hc0, hc1⟩ := HC.out w1 B1
  go_wp2_with fail
  refine (specGainOf_any n (a, b) s _).mono ?_
  rintro e w2 ⟨vw, rfl, ovw2, b2⟩
  have z2 := b2.size
  have hvw : ∀ g, vw.ownBlock = some g → g < w2.heap.size := fun g hg => (ovw2.ge g hg).2
  have B2 := below_step B1 b2 (by omega)
  clear hc0 hc1
  clear B1 b2
  obtain ⟨hc0, hc1⟩ := HC.out w2 B2
  go_wp2_with fail
  refine (toQuote_any (a, b) _).mono ?_
  rintro e w3 ⟨rfl, b3⟩
  unfold qV
  have z3 := b3.size
  have B3 := below_step B2 b3 (by omega)
  have ovw3 := ovw2.keep (SameAt.of_below b3)
  clear hc0 hc1
  clear B2 b3 ovw2
  obtain ⟨hc0, hc1⟩ := HC.out w3 B3
  go_wp2_with fail
  refine (implGainOf_any n (a, b) s _).mono ?_
  rintro e w4 ⟨vg, rfl, ovg4, b4⟩
  have z4 := b4.size
  have hvg : ∀ g, vg.ownBlock = some g → g < w4.heap.size := fun g hg => (ovg4.ge g hg).2
  have B4 := below_step B3 b4 (by omega)
  have ovw4 := ovw3.keep (SameAt.of_below b4)
  clear hc0 hc1
  clear B3 b4 ovw3
  obtain ⟨hc0, hc1⟩ := HC.out w4 B4
  go_wp2_with fail
  refine (eqIntS_any w4 vg vw _ _ (ovg4.rd) (ovw4.rd)).mono ?_
  rintro e w' ⟨q5, rfl, rfl⟩
  rw [decide_self]
  have z5 : w4.heap.size ≤ (w4.drewN q5).heap.size := Nat.le_refl _
  have B5 : Below w.heap.size w (w4.drewN q5) := below_drewN B4 q5
  have ovw5 : IOwn (w4.drewN q5) _ vw _ := ovw4
  have ovg5 : IOwn (w4.drewN q5) _ vg _ := ovg4
  clear hc0 hc1
  clear B4 ovw4 ovg4
  generalize w4.drewN q5 = w5 at *
  go_wp2_with fail
  refine (markIntS_any w5 _ (1) vg _ ovg5 (by omega) (by omega) (by omega)).mono ?_
  rintro e w6 ⟨rfl, ovg6, g6, y6⟩
  have z6 : w5.heap.size ≤ w6.heap.size := by omega
  have ovw6 := ovw5.keep (SameAt.of_grown g6 (own_far ovg5 (fun g hg => by have := hvw g hg; omega)))
  have B6 := below_grown B5 g6 ovg5 (by omega) (by omega)
  clear B5 ovg5 g6 ovw5
  obtain ⟨hc0, hc1⟩ := HC.out w6 B6
  go_wp2_with fail
  refine (heldIntS_any w6 (1) vg _ (ovg6.rd) (by omega) (by omega) (by omega)).mono ?_
  rintro e w' ⟨rfl, rfl⟩
  clear hc0 hc1
  obtain ⟨hc0, hc1⟩ := HC.out w6 B6
  go_wp2_with fail
  refine (toQuote_any (a, b) _).mono ?_
  rintro e w7 ⟨rfl, b7⟩
  unfold qV
  have z7 := b7.size
  have B7 := below_step B6 b7 (by omega)
  have ovw7 := ovw6.keep (SameAt.of_below b7)
  have ovg7 := ovg6.keep (SameAt.of_below b7)
  clear hc0 hc1
  clear B6 b7 ovw6 ovg6
  obtain ⟨hc0, hc1⟩ := HC.out w7 B7
  go_wp2_with fail
  refine (implGainOf_any n (a, b) s _).mono ?_
  rintro e w8 ⟨vj, rfl, ovj8, b8⟩
  have z8 := b8.size
  have hvj : ∀ g, vj.ownBlock = some g → g < w8.heap.size := fun g hg => (ovj8.ge g hg).2
  have B8 := below_step B7 b8 (by omega)
  have ovw8 := ovw7.keep (SameAt.of_below b8)
  have ovg8 := ovg7.keep (SameAt.of_below b8)
  clear hc0 hc1
  clear B7 b8 ovw7 ovg7
  obtain ⟨hc0, hc1⟩ := HC.out w8 B8
  go_wp2_with fail
  refine (eqIntS_any w8 vj vw _ _ (ovj8.rd) (ovw8.rd)).mono ?_
  rintro e w' ⟨q9, rfl, rfl⟩
  rw [decide_self]
  have z9 : w8.heap.size ≤ (w8.drewN q9).heap.size := Nat.le_refl _
  have B9 : Below w.heap.size w (w8.drewN q9) := below_drewN B8 q9
  have ovw9 : IOwn (w8.drewN q9) _ vw _ := ovw8
  have ovg9 : IOwn (w8.drewN q9) _ vg _ := ovg8
  have ovj9 : IOwn (w8.drewN q9) _ vj _ := ovj8
  clear hc0 hc1
  clear B8 ovw8 ovg8 ovj8
  generalize w8.drewN q9 = w9 at *
  obtain ⟨hc0, hc1⟩ := HC.out w9 B9
  go_wp2_with fail
  refine (heldIntS_any w9 (1) vg _ (ovg9.rd) (by omega) (by omega) (by omega)).mono ?_
  rintro e w' ⟨rfl, rfl⟩
  clear hc0 hc1
  go_wp2_with fail
  go_ret
  exact ⟨rfl, below_step HW.out B9 HW.out.size⟩

theorem FnExactGainOf_walk (a0 : Int) (q1 : Qt) (a2 : Int) (w : World) (w0 : (Lit.int .i64 a0).wf = true) (w2 : (Lit.int .i64 a2).wf = true) :
    Calls Try.prog 10 #[.int .i64 a0, qV q1, .int .i64 a2] w fun e w' => e = .returned (.bool true) ∧ Below w.heap.size w w' :=
  exactGainOf_any w a0 q1 a2

set_option maxHeartbeats 4000000 in
theorem exactBookOk_any (w : World) (n : Int) (v : Value) (qs : List Qt) (hv : QRd w v qs) :
    Calls Try.prog 9 #[.int .i64 n, v] w fun e w' => e = .returned (.bool true) ∧ Below w.heap.size w w' := by
  obtain ⟨A, c, rfl, hlc, hm⟩ := hv.form
  have HV := Lib.hid hv
  clear hv
  by_cases hbig : 1048576 < qs.length
  · go_enter Try.func9, Try.ntmps9
    go_wp2_with fail
    refine (szQuoteS_big w A qs.length c hbig (by omega)).mono ?_
    rintro e w' ⟨rfl, rfl⟩
    go_wp2_with fail
    go_ret
    exact ⟨rfl, Below.refl _ _⟩
  · have hn : qs.length ≤ 1048576 := by omega
    have hn' : (qs.length : Int) ≤ 1048576 := by omega
    obtain ⟨t, ht⟩ : ∃ t, bokB n qs = t := ⟨_, rfl⟩
    go_enter Try.func9, Try.ntmps9
    have B0 : Below w.heap.size w w := Below.refl _ _
    have z0 : w.heap.size ≤ w.heap.size := Nat.le_refl _
    go_wp2_with fail
    refine (szQuoteS_small w A qs.length c hn).mono ?_
    rintro e w' ⟨rfl, rfl⟩
    go_wp2_with fail
    refine (toQuoteS_any w _ qs (HV.out.keep (SameAt.of_below B0)) hn).mono ?_
    rintro e w1 ⟨va, rfl, ova1, b1⟩
    have z1 := b1.size
    have hva : ∀ g, va.ownBlock = some g → g < w1.heap.size := fun g hg => (ova1.ge g hg).2
    have B1 := below_step B0 b1 (by omega)
    clear B0 b1
    go_wp2_with fail
    refine (specBookOk_any w1 n va qs (ova1.rd qC_len)).mono ?_
    rintro e w2 ⟨rfl, b2⟩
    rw [ht]
    have z2 := b2.size
    have B2 := below_step B1 b2 (by omega)
    have ova2 := ova1.keep (SameAt.of_below b2)
    clear B1 b2 ova1
    clear ova2 hva
    go_wp2_with fail
    refine (toQuoteS_any w2 _ qs (HV.out.keep (SameAt.of_below B2)) hn).mono ?_
    rintro e w3 ⟨vc, rfl, ovc3, b3⟩
    have z3 := b3.size
    have hvc : ∀ g, vc.ownBlock = some g → g < w3.heap.size := fun g hg => (ovc3.ge g hg).2
    have B3 := below_step B2 b3 (by omega)
    clear B2 b3
    go_wp2_with fail
    refine (implBookOk_any w3 n vc qs (ovc3.rd qC_len)).mono ?_
    rintro e w4 ⟨rfl, b4⟩
    rw [ht]
    have z4 := b4.size
    have B4 := below_step B3 b4 (by omega)
    have ovc4 := ovc3.keep (SameAt.of_below b4)
    clear B3 b4 ovc3
    cases t
    all_goals
      go_wp2_with fail
      refine (toQuoteS_any w4 _ qs (HV.out.keep (SameAt.of_below B4)) hn).mono ?_
      rintro e w5 ⟨ve, rfl, ove5, b5⟩
      have z5 := b5.size
      have hve : ∀ g, ve.ownBlock = some g → g < w5.heap.size := fun g hg => (ove5.ge g hg).2
      have B5 := below_step B4 b5 (by omega)
      have ovc5 := ovc4.keep (SameAt.of_below b5)
      clear B4 b5 ovc4
      go_wp2_with fail
      refine (eqQuoteS_any w5 vc ve _ _ (ovc5.rd qC_len) (ove5.rd qC_len)).mono ?_
      rintro e w6 ⟨rfl, b6⟩
      rw [show ∀ x : List Qt, decide (x = x) = true from fun x => by simp]
      have z6 := b6.size
      have B6 := below_step B5 b6 (by omega)
      have ovc6 := ovc5.keep (SameAt.of_below b6)
      have ove6 := ove5.keep (SameAt.of_below b6)
      clear B5 b6 ovc5 ove5
      go_wp2_with fail
      go_ret
      exact ⟨rfl, B6⟩

theorem FnExactBookOk_walk (a0 : Int) (v1 : Value) (z1 : List Qt) (w : World) (w0 : (Lit.int .i64 a0).wf = true) (w1 : QRd w v1 z1) :
    Calls Try.prog 9 #[.int .i64 a0, v1] w fun e w' => e = .returned (.bool true) ∧ Below w.heap.size w w' :=
  exactBookOk_any w a0 v1 z1 w1

theorem balR_len (n : Int) (qs : List Qt) (ss : List Int) : (balR n qs ss).length ≤ 4 := by
  unfold balR
  split
  · next h => rw [balL_len]; have := bal_wok h; omega
  · simp

set_option maxHeartbeats 4000000 in
theorem exactBalanceOf_any (w : World) (n : Int) (v u : Value) (qs : List Qt) (ss : List Int) (hv : QRd w v qs) (hu : IRd w u ss) :
    Calls Try.prog 12 #[.int .i64 n, v, u] w fun e w' => e = .returned (.bool true) ∧ Below w.heap.size w w' := by
  obtain ⟨A, c, rfl, hlc, hm⟩ := hv.form
  obtain ⟨A', c', rfl, hlc', hm', -⟩ := id hu
  have HV := Lib.hid hv
  have HU := Lib.hid hu
  clear hv hu
  by_cases hbig2 : 1048576 < ss.length
  · have hbig2' : (1048576 : Int) < (ss.length : Int) := by omega
    go_enter Try.func12, Try.ntmps12
    go_wp2_with fail
    go_ret
    exact ⟨rfl, Below.refl _ _⟩
  by_cases hbig : 1048576 < qs.length
  · have hbig2' : (ss.length : Int) ≤ 1048576 := by omega
    go_enter Try.func12, Try.ntmps12
    go_wp2_with fail
    refine (szQuoteS_big w A qs.length c hbig (by omega)).mono ?_
    rintro e w' ⟨rfl, rfl⟩
    go_wp2_with fail
    go_ret
    exact ⟨rfl, Below.refl _ _⟩
  · have hn : qs.length ≤ 1048576 := by omega
    have hn' : (qs.length : Int) ≤ 1048576 := by omega
    have hn2 : ss.length ≤ 1048576 := by omega
    have hn2' : (ss.length : Int) ≤ 1048576 := by omega
    have hL := balR_len n qs ss
    obtain ⟨t, ht⟩ : ∃ t, balB n qs ss = t := ⟨_, rfl⟩
    go_enter Try.func12, Try.ntmps12
    have B0 : Below w.heap.size w w := Below.refl _ _
    have z0 : w.heap.size ≤ w.heap.size := Nat.le_refl _
    go_wp2_with fail
    refine (szQuoteS_small w A qs.length c hn).mono ?_
    rintro e w' ⟨rfl, rfl⟩
    go_wp2_with fail
    refine (toQuoteS_any w _ qs (HV.out.keep (SameAt.of_below B0)) hn).mono ?_
    rintro e w1 ⟨va, rfl, ova1, b1⟩
    have z1 := b1.size
    have hva : ∀ g, va.ownBlock = some g → g < w1.heap.size := fun g hg => (ova1.ge g hg).2
    have B1 := below_step B0 b1 (by omega)
    clear B0 b1
    go_wp2_with fail
    refine (toIntS_any w1 _ ss (HU.out.keep (SameAt.of_below B1)) hn2).mono ?_
    rintro e w2 ⟨vb, rfl, ovb2, b2⟩
    have z2 := b2.size
    have hvb : ∀ g, vb.ownBlock = some g → g < w2.heap.size := fun g hg => (ovb2.ge g hg).2
    have B2 := below_step B1 b2 (by omega)
    have ova2 := ova1.keep (SameAt.of_below b2)
    clear B1 b2 ova1
    go_wp2_with fail
    refine (specBalanceOf_any w2 n va vb qs ss (ova2.rd qC_len) (ovb2.rd)).mono ?_
    rintro e w3 ⟨vw, rfl, ovw3, b3⟩
    rw [ht]
    have z3 := b3.size
    have hvw : ∀ g, vw.ownBlock = some g → g < w3.heap.size := fun g hg => (ovw3.ge g hg).2
    have B3 := below_step B2 b3 (by omega)
    have ova3 := ova2.keep (SameAt.of_below b3)
    have ovb3 := ovb2.keep (SameAt.of_below b3)
    clear B2 b3 ova2 ovb2
    clear ova3 hva
    clear ovb3 hvb
    go_wp2_with fail
    refine (toQuoteS_any w3 _ qs (HV.out.keep (SameAt.of_below B3)) hn).mono ?_
    rintro e w4 ⟨vc, rfl, ovc4, b4⟩
    have z4 := b4.size
    have hvc : ∀ g, vc.ownBlock = some g → g < w4.heap.size := fun g hg => (ovc4.ge g hg).2
    have B4 := below_step B3 b4 (by omega)
    have ovw4 := ovw3.keep (SameAt.of_below b4)
    clear B3 b4 ovw3
    go_wp2_with fail
    refine (toIntS_any w4 _ ss (HU.out.keep (SameAt.of_below B4)) hn2).mono ?_
    rintro e w5 ⟨vd, rfl, ovd5, b5⟩
    have z5 := b5.size
    have hvd : ∀ g, vd.ownBlock = some g → g < w5.heap.size := fun g hg => (ovd5.ge g hg).2
    have B5 := below_step B4 b5 (by omega)
    have ovw5 := ovw4.keep (SameAt.of_below b5)
    have ovc5 := ovc4.keep (SameAt.of_below b5)
    clear B4 b5 ovw4 ovc4
    go_wp2_with fail
    refine (implBalanceOf_any w5 n vc vd qs ss (ovc5.rd qC_len) (ovd5.rd)).mono ?_
    rintro e w6 ⟨vg, rfl, ovg6, b6⟩
    rw [ht]
    have z6 := b6.size
    have hvg : ∀ g, vg.ownBlock = some g → g < w6.heap.size := fun g hg => (ovg6.ge g hg).2
    have B6 := below_step B5 b6 (by omega)
    have ovw6 := ovw5.keep (SameAt.of_below b6)
    have ovc6 := ovc5.keep (SameAt.of_below b6)
    have ovd6 := ovd5.keep (SameAt.of_below b6)
    clear B5 b6 ovw5 ovc5 ovd5
    cases t
    all_goals
      go_wp2_with fail
      refine (eqIntS_any w6 vg vw _ _ (ovg6.rd) (ovw6.rd)).mono ?_
      rintro e w' ⟨q7, rfl, rfl⟩
      rw [decide_self]
      have z7 : w6.heap.size ≤ (w6.drewN q7).heap.size := Nat.le_refl _
      have B7 : Below w.heap.size w (w6.drewN q7) := below_drewN B6 q7
      have ovw7 : IOwn (w6.drewN q7) _ vw _ := ovw6
      have ovc7 : QOwn (w6.drewN q7) _ vc _ := ovc6
      have ovd7 : IOwn (w6.drewN q7) _ vd _ := ovd6
      have ovg7 : IOwn (w6.drewN q7) _ vg _ := ovg6
      clear B6 ovw6 ovc6 ovd6 ovg6
      generalize w6.drewN q7 = w7 at *
      go_wp2_with fail
      refine (toQuoteS_any w7 _ qs (HV.out.keep (SameAt.of_below B7)) hn).mono ?_
      rintro e w8 ⟨ve, rfl, ove8, b8⟩
      have z8 := b8.size
      have hve : ∀ g, ve.ownBlock = some g → g < w8.heap.size := fun g hg => (ove8.ge g hg).2
      have B8 := below_step B7 b8 (by omega)
      have ovw8 := ovw7.keep (SameAt.of_below b8)
      have ovc8 := ovc7.keep (SameAt.of_below b8)
      have ovd8 := ovd7.keep (SameAt.of_below b8)
      have ovg8 := ovg7.keep (SameAt.of_below b8)
      clear B7 b8 ovw7 ovc7 ovd7 ovg7
      go_wp2_with fail
      refine (eqQuoteS_any w8 vc ve _ _ (ovc8.rd qC_len) (ove8.rd qC_len)).mono ?_
      rintro e w9 ⟨rfl, b9⟩
      rw [show ∀ x : List Qt, decide (x = x) = true from fun x => by simp]
      have z9 := b9.size
      have B9 := below_step B8 b9 (by omega)
      have ovw9 := ovw8.keep (SameAt.of_below b9)
      have ovc9 := ovc8.keep (SameAt.of_below b9)
      have ovd9 := ovd8.keep (SameAt.of_below b9)
      have ovg9 := ovg8.keep (SameAt.of_below b9)
      have ove9 := ove8.keep (SameAt.of_below b9)
      clear B8 b9 ovw8 ovc8 ovd8 ovg8 ove8
      clear ove9 hve
      go_wp2_with fail
      refine (toIntS_any w9 _ ss (HU.out.keep (SameAt.of_below B9)) hn2).mono ?_
      rintro e w10 ⟨vf, rfl, ovf10, b10⟩
      have z10 := b10.size
      have hvf : ∀ g, vf.ownBlock = some g → g < w10.heap.size := fun g hg => (ovf10.ge g hg).2
      have B10 := below_step B9 b10 (by omega)
      have ovw10 := ovw9.keep (SameAt.of_below b10)
      have ovc10 := ovc9.keep (SameAt.of_below b10)
      have ovd10 := ovd9.keep (SameAt.of_below b10)
      have ovg10 := ovg9.keep (SameAt.of_below b10)
      clear B9 b10 ovw9 ovc9 ovd9 ovg9
      go_wp2_with fail
      refine (eqIntS_any w10 vd vf _ _ (ovd10.rd) (ovf10.rd)).mono ?_
      rintro e w' ⟨q11, rfl, rfl⟩
      rw [decide_self]
      have z11 : w10.heap.size ≤ (w10.drewN q11).heap.size := Nat.le_refl _
      have B11 : Below w.heap.size w (w10.drewN q11) := below_drewN B10 q11
      have ovw11 : IOwn (w10.drewN q11) _ vw _ := ovw10
      have ovc11 : QOwn (w10.drewN q11) _ vc _ := ovc10
      have ovd11 : IOwn (w10.drewN q11) _ vd _ := ovd10
      have ovg11 : IOwn (w10.drewN q11) _ vg _ := ovg10
      have ovf11 : IOwn (w10.drewN q11) _ vf _ := ovf10
      clear B10 ovw10 ovc10 ovd10 ovg10 ovf10
      generalize w10.drewN q11 = w11 at *
      clear ovf11 hvf
      go_wp2_with fail
      refine (markQuoteS_any w11 _ (1) vc _ ovc11 hn (by omega) (by omega)).mono ?_
      rintro e w12 ⟨rfl, g12, y12⟩
      have z12 : w11.heap.size ≤ w12.heap.size := by omega
      have ovw12 := ovw11.keep (SameAt.of_grown g12 (GOwn.far ovc11 (fun g hg => by have := hvw g hg; omega)))
      have ovd12 := ovd11.keep (SameAt.of_grown g12 (own_far' ovd11 (fun g hg => by have := hvc g hg; omega)))
      have ovg12 := ovg11.keep (SameAt.of_grown g12 (own_far' ovg11 (fun g hg => by have := hvc g hg; omega)))
      have B12 := below_grownG B11 g12 ovc11 (by omega) (by omega)
      clear B11 ovc11 g12 ovw11 ovd11 ovg11
      clear hvc
      go_wp2_with fail
      refine (markIntS_any w12 _ (1 + 2 * (qs.length : Int)) vd _ ovd12 hn2 (by omega) (by omega)).mono ?_
      rintro e w13 ⟨rfl, ovd13, g13, y13⟩
      have z13 : w12.heap.size ≤ w13.heap.size := by omega
      have ovw13 := ovw12.keep (SameAt.of_grown g13 (own_far ovd12 (fun g hg => by have := hvw g hg; omega)))
      have ovg13 := ovg12.keep (SameAt.of_grown g13 (own_far' ovg12 (fun g hg => by have := hvd g hg; omega)))
      have B13 := below_grown B12 g13 ovd12 (by omega) (by omega)
      clear B12 ovd12 g13 ovw12 ovg12
      clear ovd13 hvd
      go_wp2_with fail
      refine (eqIntS_any w13 vg vw _ _ (ovg13.rd) (ovw13.rd)).mono ?_
      rintro e w' ⟨q14, rfl, rfl⟩
      rw [decide_self]
      have z14 : w13.heap.size ≤ (w13.drewN q14).heap.size := Nat.le_refl _
      have B14 : Below w.heap.size w (w13.drewN q14) := below_drewN B13 q14
      have ovw14 : IOwn (w13.drewN q14) _ vw _ := ovw13
      have ovg14 : IOwn (w13.drewN q14) _ vg _ := ovg13
      clear B13 ovw13 ovg13
      generalize w13.drewN q14 = w14 at *
      go_wp2_with fail
      refine (markIntS_any w14 _ (1) vg _ ovg14 (by omega) (by omega) (by omega)).mono ?_
      rintro e w15 ⟨rfl, ovg15, g15, y15⟩
      have z15 : w14.heap.size ≤ w15.heap.size := by omega
      have ovw15 := ovw14.keep (SameAt.of_grown g15 (own_far ovg14 (fun g hg => by have := hvw g hg; omega)))
      have B15 := below_grown B14 g15 ovg14 (by omega) (by omega)
      clear B14 ovg14 g15 ovw14
      go_wp2_with fail
      refine (heldIntS_any w15 (1) vg _ (ovg15.rd) (by omega) (by omega) (by omega)).mono ?_
      rintro e w' ⟨rfl, rfl⟩
      go_wp2_with fail
      refine (toQuoteS_any w15 _ qs (HV.out.keep (SameAt.of_below B15)) hn).mono ?_
      rintro e w16 ⟨vh, rfl, ovh16, b16⟩
      have z16 := b16.size
      have hvh : ∀ g, vh.ownBlock = some g → g < w16.heap.size := fun g hg => (ovh16.ge g hg).2
      have B16 := below_step B15 b16 (by omega)
      have ovw16 := ovw15.keep (SameAt.of_below b16)
      have ovg16 := ovg15.keep (SameAt.of_below b16)
      clear B15 b16 ovw15 ovg15
      go_wp2_with fail
      refine (toIntS_any w16 _ ss (HU.out.keep (SameAt.of_below B16)) hn2).mono ?_
      rintro e w17 ⟨vi, rfl, ovi17, b17⟩
      have z17 := b17.size
      have hvi : ∀ g, vi.ownBlock = some g → g < w17.heap.size := fun g hg => (ovi17.ge g hg).2
      have B17 := below_step B16 b17 (by omega)
      have ovw17 := ovw16.keep (SameAt.of_below b17)
      have ovg17 := ovg16.keep (SameAt.of_below b17)
      have ovh17 := ovh16.keep (SameAt.of_below b17)
      clear B16 b17 ovw16 ovg16 ovh16
      go_wp2_with fail
      refine (implBalanceOf_any w17 n vh vi qs ss (ovh17.rd qC_len) (ovi17.rd)).mono ?_
      rintro e w18 ⟨vj, rfl, ovj18, b18⟩
      rw [ht]
      have z18 := b18.size
      have hvj : ∀ g, vj.ownBlock = some g → g < w18.heap.size := fun g hg => (ovj18.ge g hg).2
      have B18 := below_step B17 b18 (by omega)
      have ovw18 := ovw17.keep (SameAt.of_below b18)
      have ovg18 := ovg17.keep (SameAt.of_below b18)
      have ovh18 := ovh17.keep (SameAt.of_below b18)
      have ovi18 := ovi17.keep (SameAt.of_below b18)
      clear B17 b18 ovw17 ovg17 ovh17 ovi17
      clear ovh18 hvh
      clear ovi18 hvi
      go_wp2_with fail
      refine (eqIntS_any w18 vj vw _ _ (ovj18.rd) (ovw18.rd)).mono ?_
      rintro e w' ⟨q19, rfl, rfl⟩
      rw [decide_self]
      have z19 : w18.heap.size ≤ (w18.drewN q19).heap.size := Nat.le_refl _
      have B19 : Below w.heap.size w (w18.drewN q19) := below_drewN B18 q19
      have ovw19 : IOwn (w18.drewN q19) _ vw _ := ovw18
      have ovg19 : IOwn (w18.drewN q19) _ vg _ := ovg18
      have ovj19 : IOwn (w18.drewN q19) _ vj _ := ovj18
      clear B18 ovw18 ovg18 ovj18
      generalize w18.drewN q19 = w19 at *
      go_wp2_with fail
      refine (heldIntS_any w19 (1) vg _ (ovg19.rd) (by omega) (by omega) (by omega)).mono ?_
      rintro e w' ⟨rfl, rfl⟩
      go_wp2_with fail
      go_ret
      exact ⟨rfl, B19⟩

theorem FnExactBalanceOf_walk (a0 : Int) (v1 : Value) (z1 : List Qt) (a2 : Option Addr) (len2 cap2 : Nat) (z2 : List Int) (w : World) (w0 : (Lit.int .i64 a0).wf = true) (w1 : QRd w v1 z1) (w2 : IsRowC .i64 w a2 len2 cap2 z2) :
    Calls Try.prog 12 #[.int .i64 a0, v1, .slice a2 len2 cap2] w fun e w' => e = .returned (.bool true) ∧ Below w.heap.size w w' := by
  obtain ⟨ss, h⟩ := ird_of_row w2
  exact exactBalanceOf_any w a0 v1 _ z1 ss w1 h

end Go.Proofs.Ytdgaakdlnihejaa
