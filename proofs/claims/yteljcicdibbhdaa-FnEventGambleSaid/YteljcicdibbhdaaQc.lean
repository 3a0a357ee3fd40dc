/- Contracts of the functions on quotes that hand back no row. Conditions: none, or stated at each. Contracts on the way to GainOf. Conditions: valid quotes and stakes where it is said. spec.GainOf. Conditions: none. -/
import Derived.Test.YteljcicdibbhdaaGf
import Derived.Test.YteljcicdibbhdaaQm
import Derived.Handy
namespace Go.Proofs.Yteljcicdibbhdaa
open Go.RowKit
set_option linter.unusedVariables false

/-- a quote as a value -/
def qV (q : Qt) : Value := .agg #[.int .i64 q.1, .int .i64 q.2]

set_option maxHeartbeats 400000 in
theorem priceOk_any (x : Int) (W : World) :
    Calls Try.prog 95 #[.int .i64 x] W fun r W' => r = .returned (.bool (inB x 0 6)) ∧ W = W' := by
  by_cases h1 : 0 ≤ x
  · by_cases h2 : x ≤ 6
    · go_enter Try.func95, Try.ntmps95
      go_wp2
      go_ret
      exact ⟨ret_bool (by symm; simp [inB, h1, h2]), rfl⟩
    · have h3 : decide (x ≤ 6) = false := by simpa using h2
      go_enter Try.func95, Try.ntmps95
      go_wp2
      go_ret
      exact ⟨ret_bool (by symm; simp [inB, h1]; omega), rfl⟩
  · have h3 : decide (0 ≤ x) = false := by simpa using h1
    go_enter Try.func95, Try.ntmps95
    go_wp2
    go_ret
    exact ⟨ret_bool (by symm; simp [inB]; omega), rfl⟩

set_option maxHeartbeats 400000 in
theorem stakeOk_any (x : Int) (W : World) :
    Calls Try.prog 81 #[.int .i64 x] W fun r W' => r = .returned (.bool (stB x)) ∧ W = W' := by
  by_cases h1 : -9 ≤ x
  · by_cases h2 : x ≤ 9
    · go_enter Try.func81, Try.ntmps81
      go_wp2
      go_ret
      exact ⟨ret_bool (by symm; simp [stB, inB, h1, h2]), rfl⟩
    · have h3 : decide (x ≤ 9) = false := by simpa using h2
      go_enter Try.func81, Try.ntmps81
      go_wp2
      go_ret
      exact ⟨ret_bool (by symm; simp [stB, inB, h1]; omega), rfl⟩
  · have h3 : decide (-9 ≤ x) = false := by simpa using h1
    go_enter Try.func81, Try.ntmps81
    go_wp2
    go_ret
    exact ⟨ret_bool (by symm; simp [stB, inB]; omega), rfl⟩

theorem qok_mk {w e p : Int} {b c : Bool} (h : evB w e = b) (k : inB p 0 6 = c) : qokB w (e, p) = (b && c) := by rw [qokB, h, k]

/-- the block of a quote that was handed over -/
def qBlk (q : Qt) : Obj := .cells #[.int .i64 q.1, .int .i64 q.2] 35

set_option maxHeartbeats 400000 in
theorem implQuoteOk_w (w : Int) (q : Qt) (W : World) :
    Calls Try.prog 68 #[.int .i64 w, qV q] W fun r W' => r = .returned (.bool (qokB w q)) ∧ W' = W.alloc (qBlk q) := by
  obtain ⟨e, p⟩ := q
  unfold qV
  rcases Bool.eq_false_or_eq_true (evB w e) with h | h
  all_goals
    go_enter Try.func68, Try.ntmps68
    go_wp2_with (first
        | (go_at_call 54; refine (implEventOk_any _ _ _).mono ?_; rintro e w' ⟨rfl, rfl⟩)
        | (go_at_call 95; refine (priceOk_any _ _).mono ?_; rintro e w' ⟨rfl, rfl⟩))
    go_ret
    exact ⟨ret_bool (by rw [qok_mk h rfl]; simp), rfl⟩

theorem implQuoteOk_any (w : Int) (q : Qt) (W : World) :
    Calls Try.prog 68 #[.int .i64 w, qV q] W fun r W' => r = .returned (.bool (qokB w q)) ∧ Below W.heap.size W W' := by
  refine (implQuoteOk_w w q W).mono ?_
  rintro e w' ⟨rfl, rfl⟩
  exact ⟨rfl, (Below.refl _ _).alloc (Nat.le_refl _) _⟩

set_option maxHeartbeats 400000 in
theorem specQuoteOk_w (w : Int) (q : Qt) (W : World) :
    Calls Try.prog 33 #[.int .i64 w, qV q] W fun r W' => r = .returned (.bool (qokB w q)) ∧ W' = W.alloc (qBlk q) := by
  obtain ⟨e, p⟩ := q
  unfold qV
  rcases Bool.eq_false_or_eq_true (evB w e) with h | h
  all_goals
    go_enter Try.func33, Try.ntmps33
    go_wp2_with (first
        | (go_at_call 18; refine (specEventOk_any _ _ _).mono ?_; rintro e w' ⟨rfl, rfl⟩)
        | (go_at_call 63; refine (l1In_any _ _ _ _).mono ?_; rintro e w' ⟨rfl, rfl⟩))
    go_ret
    exact ⟨ret_bool (by rw [qok_mk h rfl]; simp), rfl⟩

theorem specQuoteOk_any (w : Int) (q : Qt) (W : World) :
    Calls Try.prog 33 #[.int .i64 w, qV q] W fun r W' => r = .returned (.bool (qokB w q)) ∧ Below W.heap.size W W' := by
  refine (specQuoteOk_w w q W).mono ?_
  rintro e w' ⟨rfl, rfl⟩
  exact ⟨rfl, (Below.refl _ _).alloc (Nat.le_refl _) _⟩

theorem qok_true {w e p : Int} (h : qokB w (e, p) = true) : evB w e = true ∧ 0 ≤ p ∧ p ≤ 6 ∧ 1 ≤ w ∧ w ≤ 4 ∧ 0 ≤ e ∧ e ≤ 15 := by
  have h1 := (qokB_iff _ _).1 h
  have h2 := (evB_iff _ _).1 h1.1
  have h3 := evB_15 h1.1
  exact ⟨h1.1, h1.2.1, h1.2.2, h2.1, h2.2.1, h3.1, h3.2⟩

theorem other_yes {w e p : Int} (h : qokB w (e, p) = true) : otherR w (e, p) = (notI w e, 6 - p) := by rw [otherR, if_pos h]; rfl

theorem other_no {w : Int} {q : Qt} (h : qokB w q = false) : otherR w q = (0, 0) := by rw [otherR, h]; rfl

theorem ret_q {a b c d : Int} (h : a = c) (k : b = d) : Ending.returned (.agg #[.int .i64 a, .int .i64 b]) = .returned (.agg #[.int .i64 c, .int .i64 d]) := by rw [h, k]

end Go.Proofs.Yteljcicdibbhdaa

namespace Go.Proofs.Yteljcicdibbhdaa
open Go.RowKit
set_option linter.unusedVariables false

theorem hasq_tab : ∀ e : Fin 16, ∀ a : Fin 4, (bits BinOp.and IntKind.i64 (((e : Nat) : Int) / 2 ^ (a : Nat)) 1 == 1) = (bitI ((e : Nat) : Int) (a : Nat) == 1) := by decide +kernel

set_option maxHeartbeats 1000000 in
theorem hasQ_any (e : Int) (a : Nat) (h0 : 0 ≤ e) (h1 : e ≤ 15) (ha : a < 4) (W : World) :
    Calls Try.prog 94 #[.int .i64 e, .int .i64 (a : Int)] W fun r W' => r = .returned (.bool (bitI e a == 1)) ∧ W = W' := by
  obtain ⟨k, rfl⟩ := fin16 h0 h1
  have ht := hasq_tab k ⟨a, ha⟩
  have H := Lib.hid ht
  clear ht
  obtain rfl | rfl | rfl | rfl : a = 0 ∨ a = 1 ∨ a = 2 ∨ a = 3 := by omega
  all_goals
    go_enter Try.func94, Try.ntmps94
    go_wp2
    go_ret
    exact ⟨ret_bool (by have := H.out; simpa using this), rfl⟩

theorem gain_one {e p s : Int} {k : Nat} (h : (bitI e k == 1) = true) : gainI (e, p) s k = s * (6 - p) := by
  rw [beq_iff_eq] at h
  simp [gainI, h]

theorem gain_zero {e p s : Int} {k : Nat} (h : (bitI e k == 1) = false) : gainI (e, p) s k = s * -p := by
  have : bitI e k = 0 := by
    rw [beq_eq_false_iff_ne] at h
    rcases bitI_01 e k with h1 | h1
    · exact h1
    · exact absurd h1 h
  simp [gainI, this]

theorem mul_96 {s d : Int} (hs : -9 ≤ s ∧ s ≤ 9) (hd : -6 ≤ d ∧ d ≤ 6) : -54 ≤ s * d ∧ s * d ≤ 54 := by
  have h1 : 0 ≤ (9 - s) * (6 + d) := Int.mul_nonneg (by omega) (by omega)
  have h2 : 0 ≤ (9 + s) * (6 - d) := Int.mul_nonneg (by omega) (by omega)
  have h3 : 0 ≤ (9 + s) * (6 + d) := Int.mul_nonneg (by omega) (by omega)
  have h4 : 0 ≤ (9 - s) * (6 - d) := Int.mul_nonneg (by omega) (by omega)
  simp only [Int.sub_mul, Int.add_mul, Int.mul_add, Int.mul_sub] at h1 h2 h3 h4
  omega

/-- a quote that lies within bounds: its event is one of at most four worlds, its price one of 0..6; and a stake -/
def Fit (q : Qt) (s : Int) : Prop := (0 ≤ q.1 ∧ q.1 ≤ 15) ∧ (0 ≤ q.2 ∧ q.2 ≤ 6) ∧ -9 ≤ s ∧ s ≤ 9

theorem fit_of {w : Int} {q : Qt} {s : Int} (h : gainB w q s = true) : Fit q s := by
  rw [gainB, Bool.and_eq_true, stB_iff] at h
  obtain ⟨h1, h2, h3, -, -, h6, h7⟩ := qok_true (w := w) (e := q.1) (p := q.2) h.1
  exact ⟨⟨h6, h7⟩, ⟨h2, h3⟩, h.2⟩

theorem bit_tmod (e : Int) (h : 0 ≤ e) (k : Nat) : (e / 2 ^ k).tmod 2 = bitI e k := by
  rw [Int.tmod_eq_emod_of_nonneg (Int.ediv_nonneg h (Int.pow_nonneg (by decide)))]
  rfl

/-- the cells of a quote that was handed over, in any world behind -/
theorem box_cells {W wr : World} {q : Qt} (h : Below (W.alloc (qBlk q)).heap.size (W.alloc (qBlk q)) wr) :
    wr.cell? ⟨W.heap.size, 0, none⟩ = some (.int .i64 q.1) ∧ wr.cell? ⟨W.heap.size, 1, none⟩ = some (.int .i64 q.2) := by
  have hb := h.block W.heap.size (by simp)
  have hn : (W.alloc (qBlk q)).heap[W.heap.size]? = some (qBlk q) := heap_alloc_new W _
  have hB : Blk wr W.heap.size 35 #[.int .i64 q.1, .int .i64 q.2] := hb.trans hn
  exact ⟨hB.cell 0, hB.cell 1⟩

set_option maxHeartbeats 2000000 in
theorem gainRow_any (w : Int) (q : Qt) (s : Int) (h : gainB w q s = true) (W : World) :
    Calls Try.prog 82 #[.int .i64 w, qV q, .int .i64 s] W (NewInts (gainL w q s) W) := by
  obtain ⟨hw1, hw2⟩ := gain_wok h
  obtain ⟨⟨e1, e2⟩, ⟨p1, p2⟩, s1, s2⟩ := fit_of h
  obtain ⟨e, p⟩ := q
  have p1 : 0 ≤ p := p1
  have p2 : p ≤ 6 := p2
  have e1 : 0 ≤ e := e1
  have e2 : e ≤ 15 := e2
  obtain ⟨n, rfl⟩ : ∃ n : Nat, w = n := ⟨w.toNat, by omega⟩
  have HZ : Hid ((gainL (n : Int) (e, p) s).length = n) := Lib.hid (by rw [gainL_len, Int.toNat_natCast])
  have HAT : Hid (∀ k, k < n → (gainL (n : Int) (e, p) s)[k]? = some (gainI (e, p) s k)) := Lib.hid (fun k hk => gainL_at _ _ _ (by rw [Int.toNat_natCast]; exact hk))
  have m1 := mul_96 (s := s) (d := 6 - p) ⟨s1, s2⟩ (by omega)
  have m2 := mul_96 (s := s) (d := -p) ⟨s1, s2⟩ (by omega)
  have hr1 : IntKind.i64.wrap (s * (6 - p)) = s * (6 - p) := IntWalk.i64_in _ (by omega)
  have hr2 : IntKind.i64.wrap (s * -p) = s * -p := IntWalk.i64_in _ (by omega)
  have hr3 : wrap64 (s * (6 - p)) = s * (6 - p) := IntWalk.wrap64_in _ (by omega)
  have hr4 : wrap64 (s * -p) = s * -p := IntWalk.wrap64_in _ (by omega)
  clear m1 m2 h
  obtain ⟨i0, hi, hz0, hz1, hz2⟩ := info_parts Try_intinfo
  have hlt : W.heap.size < (W.alloc (.cells #[.int .i64 e, .int .i64 p] 35)).heap.size := by simp
  have hB : Below W.heap.size W (W.alloc (.cells #[.int .i64 e, .int .i64 p] 35)) := (Below.refl _ _).alloc (Nat.le_refl _) _
  have HC : Hid (∀ wr, Below (W.alloc (.cells #[.int .i64 e, .int .i64 p] 35)).heap.size (W.alloc (.cells #[.int .i64 e, .int .i64 p] 35)) wr → wr.cell? ⟨W.heap.size, 0, none⟩ = some (.int .i64 e) ∧ wr.cell? ⟨W.heap.size, 1, none⟩ = some (.int .i64 p)) := Lib.hid (fun wr hb => box_cells (q := (e, p)) hb)
  unfold qV
  have hn0 : (0 : Int) ≤ (n : Int) := by omega
  go_enter Try.func82, Try.ntmps82
  go_wp2_with (at_make; (generalize W.alloc (.cells #[.int .i64 e, .int .i64 p] 35) = w1 at HC hlt hB ⊢); refine wpList_make_full _ rfl _ _ 41 rfl w1.heap.size 3 i0 (.int .i64 0) 1 Try.underlying41 hi hz0 hz1 .i64 .i64 _ _ n rfl rfl rfl rfl ?b2 ?b3 (Nat.le_refl _) ?_)
  case b2 => first | omega | (rw [hz2]; omega)
  case b3 => unfold maxLen; omega
  intro w0 hown0 hgrow0
  have H0 : Hid (FillRel w1 (gainL (n : Int) (e, p) s) n 0 w0) := Lib.hid ⟨by rw [copied_zero, HZ.out]; simpa [toList_madeCells_one, Value.cells] using hown0, (Below.refl _ _).grown hgrow0 (Nat.le_refl _) (fun k hk => by cases hk)⟩
  have HLT := Lib.hid hlt
  have HB := Lib.hid hB
  clear hown0 hgrow0 hi hz0 hz1 hz2 hlt hB
  go_wp2_with fail
  go_loopw [13] (fun i wr => ∃ k : Nat, i = .int .i64 k ∧ k ≤ n ∧ Hid (FillRel w1 (gainL (n : Int) (e, p) s) n k wr)) (fun i _ => n - (intOf i).toNat)
  case atStart => exact ⟨0, rfl, Nat.zero_le _, H0⟩
  case round =>
    obtain ⟨k, rfl, hk, H⟩ := hrel
    clear H0
    by_cases hlt : k < n
    · have hlt' : (k : Int) < (n : Int) := by omega
      obtain ⟨hc0, hc1⟩ := HC.out wr H.out.2
      have hfz := H.out.1.frozenAt k
      obtain ⟨old, hold⟩ := some_cell H.out.1 (k := k) hlt
      have HX := Lib.hid (HAT.out k hlt)
      rcases Bool.eq_false_or_eq_true (bitI e k == 1) with hb | hb
      all_goals
        have HB1 := Lib.hid hb
        go_wp2_with (go_at_call 94; refine (hasQ_any _ _ e1 e2 (by omega) _).mono ?_; rintro r w' ⟨rfl, rfl⟩)
        go_roundw
        case rel => exact ⟨k + 1, by go_num, by omega, (show Hid _ from by have := H.out.step HX.out; first | (rw [gain_one HB1.out] at this; exact this) | (rw [gain_zero HB1.out] at this; exact this))⟩
        case measure => simp [intOf]; omega
    · go_wp2_with fail
      go_ret
      obtain ⟨h1, h2⟩ := H.out.all HZ.out (by omega)
      exact ⟨_, rfl, h1.base HB.out.size, below_step HB.out h2 HB.out.size⟩

theorem newInts_of {W w1 w2 : World} {xs : List Int} {e : Ending} (hb : Below W.heap.size W w1) (h : NewInts xs w1 e w2) : NewInts xs W e w2 := by
  obtain ⟨v, rfl, o, b⟩ := h
  exact ⟨v, rfl, o.base hb.size, below_step hb b hb.size⟩

theorem newInts_nil {W w1 : World} {xs : List Int} (h : xs = []) (hb : Below W.heap.size W w1) : NewInts xs W (.returned (.slice none 0 0)) w1 := by
  subst h
  exact ⟨_, rfl, nil_own _ _, hb⟩

theorem newInts_ret {W w1 : World} {xs ys : List Int} {v : Value} (h : xs = ys) (o : IOwn w1 W.heap.size v ys) (hb : Below W.heap.size W w1) : NewInts xs W (.returned v) w1 := by
  subst h
  exact ⟨v, rfl, o, hb⟩

theorem gainB_no1 {w : Int} {q : Qt} (s : Int) (h : qokB w q = false) : gainB w q s = false := by rw [gainB, h]; rfl

theorem gainB_no2 {w : Int} (q : Qt) {s : Int} (h : stB s = false) : gainB w q s = false := by rw [gainB, h]; simp

theorem gainB_yes {w : Int} {q : Qt} {s : Int} (h : qokB w q = true) (k : stB s = true) : gainB w q s = true := by rw [gainB, h, k]; rfl

theorem gainR_no {w : Int} {q : Qt} {s : Int} (h : gainB w q s = false) : gainR w q s = [] := by rw [gainR, h]; rfl

theorem gainR_yes {w : Int} {q : Qt} {s : Int} (h : gainB w q s = true) : gainR w q s = gainL w q s := by rw [gainR, if_pos h]

set_option maxHeartbeats 2000000 in
theorem implGainOf_any (w : Int) (q : Qt) (s : Int) (W : World) :
    Calls Try.prog 38 #[.int .i64 w, qV q, .int .i64 s] W (NewInts (gainR w q s) W) := by
  rcases Bool.eq_false_or_eq_true (qokB w q) with h | h
  · rcases Bool.eq_false_or_eq_true (stB s) with k | k
    · have HY := Lib.hid (gainB_yes h k)
      unfold qV
      go_enter Try.func38, Try.ntmps38
      go_wp2_with fail
      refine (implQuoteOk_w w q _).mono ?_
      rintro r w' ⟨rfl, rfl⟩
      rw [h]
      unfold qBlk
      go_wp2_with fail
      refine (stakeOk_any s _).mono ?_
      rintro r w' ⟨rfl, rfl⟩
      rw [k]
      go_wp2_with fail
      refine (gainRow_any w q s HY.out _).mono ?_
      rintro r w2 hr
      have HR := Lib.hid (newInts_of (W := W) (by go_grown) hr)
      clear hr
      obtain ⟨v, rfl, o, b⟩ := HR.out
      have O := Lib.hid o
      have B := Lib.hid b
      clear o b HR
      go_wp2_with fail
      go_ret
      exact newInts_ret (gainR_yes HY.out) O.out B.out
    · have HY := Lib.hid (gainR_no (gainB_no2 (w := w) q k))
      unfold qV
      go_enter Try.func38, Try.ntmps38
      go_wp2_with fail
      refine (implQuoteOk_w w q _).mono ?_
      rintro r w' ⟨rfl, rfl⟩
      rw [h]
      unfold qBlk
      go_wp2_with fail
      refine (stakeOk_any s _).mono ?_
      rintro r w' ⟨rfl, rfl⟩
      rw [k]
      go_wp2_with fail
      go_ret
      exact newInts_nil HY.out (by go_grown)
  · have HY := Lib.hid (gainR_no (gainB_no1 s h))
    unfold qV
    go_enter Try.func38, Try.ntmps38
    go_wp2_with fail
    refine (implQuoteOk_w w q _).mono ?_
    rintro r w' ⟨rfl, rfl⟩
    rw [h]
    unfold qBlk
    go_wp2_with fail
    go_ret
    exact newInts_nil HY.out (by go_grown)

end Go.Proofs.Yteljcicdibbhdaa

namespace Go.Proofs.Yteljcicdibbhdaa
open Go.RowKit
set_option linter.unusedVariables false

theorem AppRel.keep {w wr w' : World} {zs : List Int} {k : Nat} {p : Value} (h : AppRel w zs k p wr) (hb : Below wr.heap.size wr w') : AppRel w zs k p w' :=
  ⟨h.1.keep (SameAt.of_below hb), below_step h.2 hb h.2.size⟩

theorem inB_stB (s : Int) : inB s (-9) 9 = stB s := rfl

theorem app_start' (W : World) (o : Obj) (zs : List Int) : AppRel (W.alloc o) zs 0 (.slice (some ⟨W.heap.size + 1, 0, none⟩) 0 0) ((W.alloc o).alloc (.cells #[] 3)) := by
  have h := app_start (W.alloc o) zs
  rw [show (W.alloc o).heap.size = W.heap.size + 1 from by simp] at h
  exact h

theorem lit_own' (W : World) (o : Obj) : IOwn ((W.alloc o).alloc (.cells #[] 3)) W.heap.size (.slice (some ⟨W.heap.size + 1, 0, none⟩) 0 0) [] := by
  have h := lit_own (W.alloc o) W.heap.size (by simp)
  rw [show (W.alloc o).heap.size = W.heap.size + 1 from by simp] at h
  exact h

end Go.Proofs.Yteljcicdibbhdaa
