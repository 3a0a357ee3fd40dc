/- The walk of the law of two prices for one event. Conditions: rows of bytes that came in. -/
import Derived.Test.YtfjmlbcmidichaaSf
import Derived.Test.YtfjmlbcmidichaaDt
import Derived.BigQuiet
import Derived.Test.YtfjmlbcmidichaaRh
namespace Go.Proofs.Ytfjmlbcmidichaa
open Go.RowKit
set_option linter.unusedVariables false

theorem specQuoteOk_v {n a b : Int} {t : Bool} (h : qokB n (a, b) = t) (W : World) :
    Calls Try.prog 52 #[.int .i64 n, .agg #[.int .i64 a, .int .i64 b]] W fun e W' => e = .returned (.bool t) ∧ W' = W.alloc (qBlk (a, b)) := by
  subst h
  refine (specQuoteOk_w n (a, b) W).mono ?_
  rintro e w' ⟨rfl, rfl⟩
  exact ⟨rfl, rfl⟩

theorem two_book (w : World) (a b s : Int) : QOwn (w.alloc (.cells #[.int .i64 a, .int .i64 b, .int .i64 a, .int .i64 s] 33)) w.heap.size (.slice (some ⟨w.heap.size, 0, none⟩) 2 2) [(a, b), (a, s)] :=
  World.ownsRow_lit w #[.int .i64 a, .int .i64 b, .int .i64 a, .int .i64 s] 2 (Nat.le_refl _) (by unfold maxLen; omega) rfl

theorem two_rd (w : World) (a b s : Int) : QRd (w.alloc (.cells #[.int .i64 a, .int .i64 b, .int .i64 a, .int .i64 s] 33)) (.slice (some ⟨w.heap.size, 0, none⟩) 2 2) [(a, b), (a, s)] :=
  (two_book w a b s).rd (fun _ => rfl)

theorem two_facts {n a b s : Int} (h : qokB n (a, b) = true) (r0 : 0 ≤ s) (r6 : s ≤ 6) (hne : s ≠ b) (h0 : a ≠ 0) (h1 : a ≠ allI n) :
    lossOk n [(a, b), (a, s)] = true ∧ lossR n [(a, b), (a, s)] = pairS b s ∧ sureI n [(a, b), (a, s)] = -pairD b s := by
  obtain ⟨e1, e2⟩ := two_prices h r0 r6 hne h0 h1
  have k1 : lossOk n [(a, b), (a, s)] = true := by rw [lossOk, e1]; rfl
  have k2 : lossR n [(a, b), (a, s)] = pairS b s := by rw [lossR, e1]; rfl
  refine ⟨k1, k2, ?_⟩
  rw [sureI, if_pos k1, k2, e2]

set_option maxRecDepth 100000 in
set_option maxHeartbeats 8000000 in
theorem FnTwoPrices_walk (a0 : Option Addr) (len0 cap0 : Nat) (z0 : List Int) (W : World) (w0 : IsRowC .u8 W a0 len0 cap0 z0) :
    Calls Try.prog 13 #[.slice a0 len0 cap0] W fun e w' => e = .returned (.bool true) ∧ Below W.heap.size W w' := by
  by_cases hlen : 1048576 < len0
  · clear w0
    go_enter Try.func13, Try.ntmps13
    go_wp2
    go_ret
    exact ⟨rfl, Below.refl _ _⟩
  · have hlen' : decide (1048576 < len0) = false := by simpa using hlen
    go_enter Try.func13, Try.ntmps13
    go_wp2_with fail
    refine (drawGainOf_any _ _ _ _ _ w0).mono ?_
    rintro e w1 ⟨n, ⟨a, b⟩, s, rfl, b1⟩
    unfold qV
    have HC : Hid (∀ wr, Below (w1.alloc (.cells #[.int .i64 a, .int .i64 b] 33)).heap.size (w1.alloc (.cells #[.int .i64 a, .int .i64 b] 33)) wr → wr.cell? ⟨w1.heap.size, 0, none⟩ = some (.int .i64 a) ∧ wr.cell? ⟨w1.heap.size, 1, none⟩ = some (.int .i64 b)) := Lib.hid (fun wr h => box_cells (q := (a, b)) h)
    have HW : Hid (Below W.heap.size W (w1.alloc (.cells #[.int .i64 a, .int .i64 b] 33))) := Lib.hid (b1.alloc b1.size _)
    clear hlen hlen' w0 b1
    go_wp2_with fail
    generalize w1.alloc (.cells #[.int .i64 a, .int .i64 b] 33) = w at HC HW ⊢
    obtain ⟨hc0, hc1⟩ := HC.out w (Below.refl _ _)
    have HD := Lib.hid (HC.out (w.drew.alloc (qBlk (a, b))) ((Below.refl _ w).drew.alloc (Nat.le_refl _) _))
    have HWD := Lib.hid (HW.out.drew.alloc HW.out.size (qBlk (a, b)))
    rcases Bool.eq_false_or_eq_true (qokB n (a, b)) with ht | ht
    · have HQ := Lib.hid ht
      obtain ⟨g1, g2, g3, g4, g5, g6, g7⟩ := qok_true ht
      clear ht
      by_cases c1 : s < 0
      · have d1 : decide (s < 0) = true := by simpa using c1
        refine wp_region_held_drew (S := fun w' => w'.cell? ⟨w1.heap.size, 0, none⟩ = some (.int .i64 a) ∧ w'.cell? ⟨w1.heap.size, 1, none⟩ = some (.int .i64 b)) (by kernel_rfl) ⟨hc0, hc1⟩ (fun hHeld => ?_)
        refine take_in (i := 0) (v := ?vz1_0) rfl (by kernel_rfl) (fun _ _ _ h => h) rfl ?hz1_0 hHeld ?rz1_0
        case hz1_0 => (intro w hSw; go_simp; all_goals with_reducible rfl)
        try simp only [Act.put, List.setIfInBounds_toArray, List.set_cons_zero, List.set_cons_succ]
        refine take_in (i := 1) (v := ?vz1_1) rfl (by kernel_rfl) (fun _ _ _ h => h) rfl ?hz1_1 hHeld ?rz1_1
        case hz1_1 => (intro w hSw; go_simp; all_goals with_reducible rfl)
        try simp only [Act.put, List.setIfInBounds_toArray, List.set_cons_zero, List.set_cons_succ]
        refine wpAnyH_ready (rs := [2]) (by kernel_rfl) (by simp) ?_
        refine AllReadyH.cons rfl (fun K hK => ?_) AllReadyH.nil
        go_simp
        go_at_call 52
        refine (specQuoteOk_v HQ.out w.drew).mono ?_
        rintro e wq ⟨rfl, rfl⟩
        refine hK.out _ _ HD.out (fun hHeld => ?_)
        clear hK K
        try simp only [Act.put, List.setIfInBounds_toArray, List.set_cons_zero, List.set_cons_succ]
        refine take_in (i := 3) (v := ?vz1_3) rfl (by kernel_rfl) (fun _ _ _ h => h) rfl ?hz1_3 hHeld ?rz1_3
        case hz1_3 => (intro w hSw; go_simp; all_goals with_reducible rfl)
        try simp only [Act.put, List.setIfInBounds_toArray, List.set_cons_zero, List.set_cons_succ]
        refine take_in (i := 4) (v := ?vz1_4) rfl (by kernel_rfl) (fun _ _ _ h => h) rfl ?hz1_4 hHeld ?rz1_4
        case hz1_4 => (intro w hSw; go_simp; all_goals with_reducible rfl)
        try simp only [Act.put, List.setIfInBounds_toArray, List.set_cons_zero, List.set_cons_succ]
        refine take_in (i := 5) (v := ?vz1_5) rfl (by kernel_rfl) (fun _ _ _ h => h) rfl ?hz1_5 hHeld ?rz1_5
        case hz1_5 => (intro w hSw; go_simp; all_goals with_reducible rfl)
        try simp only [Act.put, List.setIfInBounds_toArray, List.set_cons_zero, List.set_cons_succ]
        refine take_in (i := 6) (v := ?vz1_6) rfl (by kernel_rfl) (fun _ _ _ h => h) rfl ?hz1_6 hHeld ?rz1_6
        case hz1_6 => (intro w hSw; go_simp; all_goals with_reducible rfl)
        try simp only [Act.put, List.setIfInBounds_toArray, List.set_cons_zero, List.set_cons_succ]
        refine take_in (i := 7) (v := ?vz1_7) rfl (by kernel_rfl) (fun _ _ _ h => h) rfl ?hz1_7 hHeld ?rz1_7
        case hz1_7 => (intro w hSw; go_simp; all_goals with_reducible rfl)
        try simp only [Act.put, List.setIfInBounds_toArray, List.set_cons_zero, List.set_cons_succ]
        refine take_in (i := 8) (v := ?vz1_8) rfl (by kernel_rfl) (fun _ _ _ h => h) rfl ?hz1_8 hHeld ?rz1_8
        case hz1_8 => (intro w hSw; go_simp; all_goals with_reducible rfl)
        try simp only [Act.put, List.setIfInBounds_toArray, List.set_cons_zero, List.set_cons_succ]
        refine take_out (i := 9) rfl (by kernel_rfl) (fun _ _ _ h => h) rfl hHeld ?_
        try simp only [Act.put, List.setIfInBounds_toArray, List.set_cons_zero, List.set_cons_succ]
        refine take_out (i := 10) rfl (by kernel_rfl) (fun _ _ _ h => h) rfl hHeld ?_
        try simp only [Act.put, List.setIfInBounds_toArray, List.set_cons_zero, List.set_cons_succ]
        refine take_in (i := 11) (v := ?vz1_11) rfl (by kernel_rfl) (fun _ _ _ h => h) rfl ?hz1_11 hHeld ?rz1_11
        case hz1_11 => (intro w hSw; go_simp; all_goals with_reducible rfl)
        try simp only [Act.put, List.setIfInBounds_toArray, List.set_cons_zero, List.set_cons_succ]
        refine take_in (i := 12) (v := ?vz1_12) rfl (by kernel_rfl) (fun _ _ _ h => h) rfl ?hz1_12 hHeld ?rz1_12
        case hz1_12 => (intro w hSw; go_simp; all_goals with_reducible rfl)
        try simp only [Act.put, List.setIfInBounds_toArray, List.set_cons_zero, List.set_cons_succ]
        refine take_out (i := 13) rfl (by kernel_rfl) (fun _ _ _ h => h) rfl hHeld ?_
        try simp only [Act.put, List.setIfInBounds_toArray, List.set_cons_zero, List.set_cons_succ]
        refine take_out (i := 14) rfl (by kernel_rfl) (fun _ _ _ h => h) rfl hHeld ?_
        try simp only [Act.put, List.setIfInBounds_toArray, List.set_cons_zero, List.set_cons_succ]
        refine take_out (i := 15) rfl (by kernel_rfl) (fun _ _ _ h => h) rfl hHeld ?_
        try simp only [Act.put, List.setIfInBounds_toArray, List.set_cons_zero, List.set_cons_succ]
        refine take_out (i := 16) rfl (by kernel_rfl) (fun _ _ _ h => h) rfl hHeld ?_
        try simp only [Act.put, List.setIfInBounds_toArray, List.set_cons_zero, List.set_cons_succ]
        refine take_in (i := 17) (v := ?vz1_17) rfl (by kernel_rfl) (fun _ _ _ h => h) rfl ?hz1_17 hHeld ?rz1_17
        case hz1_17 => (intro w hSw; go_simp; all_goals with_reducible rfl)
        try simp only [Act.put, List.setIfInBounds_toArray, List.set_cons_zero, List.set_cons_succ]
        refine take_in (i := 18) (v := ?vz1_18) rfl (by kernel_rfl) (fun _ _ _ h => h) rfl ?hz1_18 hHeld ?rz1_18
        case hz1_18 => (intro w hSw; go_simp; all_goals with_reducible rfl)
        try simp only [Act.put, List.setIfInBounds_toArray, List.set_cons_zero, List.set_cons_succ]
        refine take_out (i := 19) rfl (by kernel_rfl) (fun _ _ _ h => h) rfl hHeld ?_
        try simp only [Act.put, List.setIfInBounds_toArray, List.set_cons_zero, List.set_cons_succ]
        refine take_out (i := 20) rfl (by kernel_rfl) (fun _ _ _ h => h) rfl hHeld ?_
        try simp only [Act.put, List.setIfInBounds_toArray, List.set_cons_zero, List.set_cons_succ]
        refine take_out (i := 21) rfl (by kernel_rfl) (fun _ _ _ h => h) rfl hHeld ?_
        try simp only [Act.put, List.setIfInBounds_toArray, List.set_cons_zero, List.set_cons_succ]
        refine take_in (i := 22) (v := ?vz1_22) rfl (by kernel_rfl) (fun _ _ _ h => h) rfl ?hz1_22 hHeld ?rz1_22
        case hz1_22 => (intro w hSw; go_simp; all_goals with_reducible rfl)
        try simp only [Act.put, List.setIfInBounds_toArray, List.set_cons_zero, List.set_cons_succ]
        refine take_in (i := 23) (v := ?vz1_23) rfl (by kernel_rfl) (fun _ _ _ h => h) rfl ?hz1_23 hHeld ?rz1_23
        case hz1_23 => (intro w hSw; go_simp; all_goals with_reducible rfl)
        try simp only [Act.put, List.setIfInBounds_toArray, List.set_cons_zero, List.set_cons_succ]
        refine take_out (i := 24) rfl (by kernel_rfl) (fun _ _ _ h => h) rfl hHeld ?_
        try simp only [Act.put, List.setIfInBounds_toArray, List.set_cons_zero, List.set_cons_succ]
        refine take_out (i := 25) rfl (by kernel_rfl) (fun _ _ _ h => h) rfl hHeld ?_
        try simp only [Act.put, List.setIfInBounds_toArray, List.set_cons_zero, List.set_cons_succ]
        refine take_out (i := 26) rfl (by kernel_rfl) (fun _ _ _ h => h) rfl hHeld ?_
        try simp only [Act.put, List.setIfInBounds_toArray, List.set_cons_zero, List.set_cons_succ]
        refine take_out (i := 27) rfl (by kernel_rfl) (fun _ _ _ h => h) rfl hHeld ?_
        try simp only [Act.put, List.setIfInBounds_toArray, List.set_cons_zero, List.set_cons_succ]
        refine take_out (i := 28) rfl (by kernel_rfl) (fun _ _ _ h => h) rfl hHeld ?_
        try simp only [Act.put, List.setIfInBounds_toArray, List.set_cons_zero, List.set_cons_succ]
        refine take_out (i := 29) rfl (by kernel_rfl) (fun _ _ _ h => h) rfl hHeld ?_
        try simp only [Act.put, List.setIfInBounds_toArray, List.set_cons_zero, List.set_cons_succ]
        refine take_in (i := 30) (v := ?vz1_30) rfl (by kernel_rfl) (fun _ _ _ h => h) rfl ?hz1_30 hHeld ?rz1_30
        case hz1_30 => (intro w hSw; go_simp; all_goals with_reducible rfl)
        try simp only [Act.put, List.setIfInBounds_toArray, List.set_cons_zero, List.set_cons_succ]
        refine wpAnyH_done (by kernel_rfl) ?_ _
        go_wp2_with fail
        refine (alive_any _).mono ?_
        rintro e w' ⟨rfl, rfl⟩
        go_wp2_with fail
        go_ret
        exact ⟨rfl, HWD.out⟩
      have c1' : 0 ≤ s := by omega
      have d1 : decide (s < 0) = false := by simpa using c1'
      by_cases c2 : 6 < s
      · have d2 : decide (6 < s) = true := by simpa using c2
        refine wp_region_held_drew (S := fun w' => w'.cell? ⟨w1.heap.size, 0, none⟩ = some (.int .i64 a) ∧ w'.cell? ⟨w1.heap.size, 1, none⟩ = some (.int .i64 b)) (by kernel_rfl) ⟨hc0, hc1⟩ (fun hHeld => ?_)
        refine take_in (i := 0) (v := ?vz2_0) rfl (by kernel_rfl) (fun _ _ _ h => h) rfl ?hz2_0 hHeld ?rz2_0
        case hz2_0 => (intro w hSw; go_simp; all_goals with_reducible rfl)
        try simp only [Act.put, List.setIfInBounds_toArray, List.set_cons_zero, List.set_cons_succ]
        refine take_in (i := 1) (v := ?vz2_1) rfl (by kernel_rfl) (fun _ _ _ h => h) rfl ?hz2_1 hHeld ?rz2_1
        case hz2_1 => (intro w hSw; go_simp; all_goals with_reducible rfl)
        try simp only [Act.put, List.setIfInBounds_toArray, List.set_cons_zero, List.set_cons_succ]
        refine wpAnyH_ready (rs := [2]) (by kernel_rfl) (by simp) ?_
        refine AllReadyH.cons rfl (fun K hK => ?_) AllReadyH.nil
        go_simp
        go_at_call 52
        refine (specQuoteOk_v HQ.out w.drew).mono ?_
        rintro e wq ⟨rfl, rfl⟩
        refine hK.out _ _ HD.out (fun hHeld => ?_)
        clear hK K
        try simp only [Act.put, List.setIfInBounds_toArray, List.set_cons_zero, List.set_cons_succ]
        refine take_in (i := 3) (v := ?vz2_3) rfl (by kernel_rfl) (fun _ _ _ h => h) rfl ?hz2_3 hHeld ?rz2_3
        case hz2_3 => (intro w hSw; go_simp; all_goals with_reducible rfl)
        try simp only [Act.put, List.setIfInBounds_toArray, List.set_cons_zero, List.set_cons_succ]
        refine take_in (i := 4) (v := ?vz2_4) rfl (by kernel_rfl) (fun _ _ _ h => h) rfl ?hz2_4 hHeld ?rz2_4
        case hz2_4 => (intro w hSw; go_simp; all_goals with_reducible rfl)
        try simp only [Act.put, List.setIfInBounds_toArray, List.set_cons_zero, List.set_cons_succ]
        refine take_in (i := 5) (v := ?vz2_5) rfl (by kernel_rfl) (fun _ _ _ h => h) rfl ?hz2_5 hHeld ?rz2_5
        case hz2_5 => (intro w hSw; go_simp; all_goals with_reducible rfl)
        try simp only [Act.put, List.setIfInBounds_toArray, List.set_cons_zero, List.set_cons_succ]
        refine take_in (i := 6) (v := ?vz2_6) rfl (by kernel_rfl) (fun _ _ _ h => h) rfl ?hz2_6 hHeld ?rz2_6
        case hz2_6 => (intro w hSw; go_simp; all_goals with_reducible rfl)
        try simp only [Act.put, List.setIfInBounds_toArray, List.set_cons_zero, List.set_cons_succ]
        refine take_in (i := 7) (v := ?vz2_7) rfl (by kernel_rfl) (fun _ _ _ h => h) rfl ?hz2_7 hHeld ?rz2_7
        case hz2_7 => (intro w hSw; go_simp; all_goals with_reducible rfl)
        try simp only [Act.put, List.setIfInBounds_toArray, List.set_cons_zero, List.set_cons_succ]
        refine take_in (i := 8) (v := ?vz2_8) rfl (by kernel_rfl) (fun _ _ _ h => h) rfl ?hz2_8 hHeld ?rz2_8
        case hz2_8 => (intro w hSw; go_simp; all_goals with_reducible rfl)
        try simp only [Act.put, List.setIfInBounds_toArray, List.set_cons_zero, List.set_cons_succ]
        refine take_in (i := 9) (v := ?vz2_9) rfl (by kernel_rfl) (fun _ _ _ h => h) rfl ?hz2_9 hHeld ?rz2_9
        case hz2_9 => (intro w hSw; go_simp; all_goals with_reducible rfl)
        try simp only [Act.put, List.setIfInBounds_toArray, List.set_cons_zero, List.set_cons_succ]
        refine take_in (i := 10) (v := ?vz2_10) rfl (by kernel_rfl) (fun _ _ _ h => h) rfl ?hz2_10 hHeld ?rz2_10
        case hz2_10 => (intro w hSw; go_simp; all_goals with_reducible rfl)
        try simp only [Act.put, List.setIfInBounds_toArray, List.set_cons_zero, List.set_cons_succ]
        refine take_in (i := 11) (v := ?vz2_11) rfl (by kernel_rfl) (fun _ _ _ h => h) rfl ?hz2_11 hHeld ?rz2_11
        case hz2_11 => (intro w hSw; go_simp; all_goals with_reducible rfl)
        try simp only [Act.put, List.setIfInBounds_toArray, List.set_cons_zero, List.set_cons_succ]
        refine take_in (i := 12) (v := ?vz2_12) rfl (by kernel_rfl) (fun _ _ _ h => h) rfl ?hz2_12 hHeld ?rz2_12
        case hz2_12 => (intro w hSw; go_simp; all_goals with_reducible rfl)
        try simp only [Act.put, List.setIfInBounds_toArray, List.set_cons_zero, List.set_cons_succ]
        refine take_out (i := 13) rfl (by kernel_rfl) (fun _ _ _ h => h) rfl hHeld ?_
        try simp only [Act.put, List.setIfInBounds_toArray, List.set_cons_zero, List.set_cons_succ]
        refine take_out (i := 14) rfl (by kernel_rfl) (fun _ _ _ h => h) rfl hHeld ?_
        try simp only [Act.put, List.setIfInBounds_toArray, List.set_cons_zero, List.set_cons_succ]
        refine take_out (i := 15) rfl (by kernel_rfl) (fun _ _ _ h => h) rfl hHeld ?_
        try simp only [Act.put, List.setIfInBounds_toArray, List.set_cons_zero, List.set_cons_succ]
        refine take_out (i := 16) rfl (by kernel_rfl) (fun _ _ _ h => h) rfl hHeld ?_
        try simp only [Act.put, List.setIfInBounds_toArray, List.set_cons_zero, List.set_cons_succ]
        refine take_in (i := 17) (v := ?vz2_17) rfl (by kernel_rfl) (fun _ _ _ h => h) rfl ?hz2_17 hHeld ?rz2_17
        case hz2_17 => (intro w hSw; go_simp; all_goals with_reducible rfl)
        try simp only [Act.put, List.setIfInBounds_toArray, List.set_cons_zero, List.set_cons_succ]
        refine take_in (i := 18) (v := ?vz2_18) rfl (by kernel_rfl) (fun _ _ _ h => h) rfl ?hz2_18 hHeld ?rz2_18
        case hz2_18 => (intro w hSw; go_simp; all_goals with_reducible rfl)
        try simp only [Act.put, List.setIfInBounds_toArray, List.set_cons_zero, List.set_cons_succ]
        refine take_out (i := 19) rfl (by kernel_rfl) (fun _ _ _ h => h) rfl hHeld ?_
        try simp only [Act.put, List.setIfInBounds_toArray, List.set_cons_zero, List.set_cons_succ]
        refine take_out (i := 20) rfl (by kernel_rfl) (fun _ _ _ h => h) rfl hHeld ?_
        try simp only [Act.put, List.setIfInBounds_toArray, List.set_cons_zero, List.set_cons_succ]
        refine take_out (i := 21) rfl (by kernel_rfl) (fun _ _ _ h => h) rfl hHeld ?_
        try simp only [Act.put, List.setIfInBounds_toArray, List.set_cons_zero, List.set_cons_succ]
        refine take_in (i := 22) (v := ?vz2_22) rfl (by kernel_rfl) (fun _ _ _ h => h) rfl ?hz2_22 hHeld ?rz2_22
        case hz2_22 => (intro w hSw; go_simp; all_goals with_reducible rfl)
        try simp only [Act.put, List.setIfInBounds_toArray, List.set_cons_zero, List.set_cons_succ]
        refine take_in (i := 23) (v := ?vz2_23) rfl (by kernel_rfl) (fun _ _ _ h => h) rfl ?hz2_23 hHeld ?rz2_23
        case hz2_23 => (intro w hSw; go_simp; all_goals with_reducible rfl)
        try simp only [Act.put, List.setIfInBounds_toArray, List.set_cons_zero, List.set_cons_succ]
        refine take_out (i := 24) rfl (by kernel_rfl) (fun _ _ _ h => h) rfl hHeld ?_
        try simp only [Act.put, List.setIfInBounds_toArray, List.set_cons_zero, List.set_cons_succ]
        refine take_out (i := 25) rfl (by kernel_rfl) (fun _ _ _ h => h) rfl hHeld ?_
        try simp only [Act.put, List.setIfInBounds_toArray, List.set_cons_zero, List.set_cons_succ]
        refine take_out (i := 26) rfl (by kernel_rfl) (fun _ _ _ h => h) rfl hHeld ?_
        try simp only [Act.put, List.setIfInBounds_toArray, List.set_cons_zero, List.set_cons_succ]
        refine take_out (i := 27) rfl (by kernel_rfl) (fun _ _ _ h => h) rfl hHeld ?_
        try simp only [Act.put, List.setIfInBounds_toArray, List.set_cons_zero, List.set_cons_succ]
        refine take_out (i := 28) rfl (by kernel_rfl) (fun _ _ _ h => h) rfl hHeld ?_
        try simp only [Act.put, List.setIfInBounds_toArray, List.set_cons_zero, List.set_cons_succ]
        refine take_out (i := 29) rfl (by kernel_rfl) (fun _ _ _ h => h) rfl hHeld ?_
        try simp only [Act.put, List.setIfInBounds_toArray, List.set_cons_zero, List.set_cons_succ]
        refine take_in (i := 30) (v := ?vz2_30) rfl (by kernel_rfl) (fun _ _ _ h => h) rfl ?hz2_30 hHeld ?rz2_30
        case hz2_30 => (intro w hSw; go_simp; all_goals with_reducible rfl)
        try simp only [Act.put, List.setIfInBounds_toArray, List.set_cons_zero, List.set_cons_succ]
        refine wpAnyH_done (by kernel_rfl) ?_ _
        go_wp2_with fail
        refine (alive_any _).mono ?_
        rintro e w' ⟨rfl, rfl⟩
        go_wp2_with fail
        go_ret
        exact ⟨rfl, HWD.out⟩
      have c2' : s ≤ 6 := by omega
      have d2 : decide (6 < s) = false := by simpa using c2'
      by_cases c3 : s = b
      · have c3' : (s == b) = true := by simpa using c3
        clear c3
        refine wp_region_held_drew (S := fun w' => w'.cell? ⟨w1.heap.size, 0, none⟩ = some (.int .i64 a) ∧ w'.cell? ⟨w1.heap.size, 1, none⟩ = some (.int .i64 b)) (by kernel_rfl) ⟨hc0, hc1⟩ (fun hHeld => ?_)
        refine take_in (i := 0) (v := ?vz3_0) rfl (by kernel_rfl) (fun _ _ _ h => h) rfl ?hz3_0 hHeld ?rz3_0
        case hz3_0 => (intro w hSw; go_simp; all_goals with_reducible rfl)
        try simp only [Act.put, List.setIfInBounds_toArray, List.set_cons_zero, List.set_cons_succ]
        refine take_in (i := 1) (v := ?vz3_1) rfl (by kernel_rfl) (fun _ _ _ h => h) rfl ?hz3_1 hHeld ?rz3_1
        case hz3_1 => (intro w hSw; go_simp; all_goals with_reducible rfl)
        try simp only [Act.put, List.setIfInBounds_toArray, List.set_cons_zero, List.set_cons_succ]
        refine wpAnyH_ready (rs := [2]) (by kernel_rfl) (by simp) ?_
        refine AllReadyH.cons rfl (fun K hK => ?_) AllReadyH.nil
        go_simp
        go_at_call 52
        refine (specQuoteOk_v HQ.out w.drew).mono ?_
        rintro e wq ⟨rfl, rfl⟩
        refine hK.out _ _ HD.out (fun hHeld => ?_)
        clear hK K
        try simp only [Act.put, List.setIfInBounds_toArray, List.set_cons_zero, List.set_cons_succ]
        refine take_in (i := 3) (v := ?vz3_3) rfl (by kernel_rfl) (fun _ _ _ h => h) rfl ?hz3_3 hHeld ?rz3_3
        case hz3_3 => (intro w hSw; go_simp; all_goals with_reducible rfl)
        try simp only [Act.put, List.setIfInBounds_toArray, List.set_cons_zero, List.set_cons_succ]
        refine take_in (i := 4) (v := ?vz3_4) rfl (by kernel_rfl) (fun _ _ _ h => h) rfl ?hz3_4 hHeld ?rz3_4
        case hz3_4 => (intro w hSw; go_simp; all_goals with_reducible rfl)
        try simp only [Act.put, List.setIfInBounds_toArray, List.set_cons_zero, List.set_cons_succ]
        refine take_in (i := 5) (v := ?vz3_5) rfl (by kernel_rfl) (fun _ _ _ h => h) rfl ?hz3_5 hHeld ?rz3_5
        case hz3_5 => (intro w hSw; go_simp; all_goals with_reducible rfl)
        try simp only [Act.put, List.setIfInBounds_toArray, List.set_cons_zero, List.set_cons_succ]
        refine take_in (i := 6) (v := ?vz3_6) rfl (by kernel_rfl) (fun _ _ _ h => h) rfl ?hz3_6 hHeld ?rz3_6
        case hz3_6 => (intro w hSw; go_simp; all_goals with_reducible rfl)
        try simp only [Act.put, List.setIfInBounds_toArray, List.set_cons_zero, List.set_cons_succ]
        refine take_in (i := 7) (v := ?vz3_7) rfl (by kernel_rfl) (fun _ _ _ h => h) rfl ?hz3_7 hHeld ?rz3_7
        case hz3_7 => (intro w hSw; go_simp; all_goals with_reducible rfl)
        try simp only [Act.put, List.setIfInBounds_toArray, List.set_cons_zero, List.set_cons_succ]
        refine take_in (i := 8) (v := ?vz3_8) rfl (by kernel_rfl) (fun _ _ _ h => h) rfl ?hz3_8 hHeld ?rz3_8
        case hz3_8 => (intro w hSw; go_simp; all_goals with_reducible rfl)
        try simp only [Act.put, List.setIfInBounds_toArray, List.set_cons_zero, List.set_cons_succ]
        refine take_in (i := 9) (v := ?vz3_9) rfl (by kernel_rfl) (fun _ _ _ h => h) rfl ?hz3_9 hHeld ?rz3_9
        case hz3_9 => (intro w hSw; go_simp; all_goals with_reducible rfl)
        try simp only [Act.put, List.setIfInBounds_toArray, List.set_cons_zero, List.set_cons_succ]
        refine take_in (i := 10) (v := ?vz3_10) rfl (by kernel_rfl) (fun _ _ _ h => h) rfl ?hz3_10 hHeld ?rz3_10
        case hz3_10 => (intro w hSw; go_simp; all_goals with_reducible rfl)
        try simp only [Act.put, List.setIfInBounds_toArray, List.set_cons_zero, List.set_cons_succ]
        refine take_in (i := 11) (v := ?vz3_11) rfl (by kernel_rfl) (fun _ _ _ h => h) rfl ?hz3_11 hHeld ?rz3_11
        case hz3_11 => (intro w hSw; go_simp; all_goals with_reducible rfl)
        try simp only [Act.put, List.setIfInBounds_toArray, List.set_cons_zero, List.set_cons_succ]
        refine take_in (i := 12) (v := ?vz3_12) rfl (by kernel_rfl) (fun _ _ _ h => h) rfl ?hz3_12 hHeld ?rz3_12
        case hz3_12 => (intro w hSw; go_simp; all_goals with_reducible rfl)
        try simp only [Act.put, List.setIfInBounds_toArray, List.set_cons_zero, List.set_cons_succ]
        refine take_in (i := 13) (v := ?vz3_13) rfl (by kernel_rfl) (fun _ _ _ h => h) rfl ?hz3_13 hHeld ?rz3_13
        case hz3_13 => (intro w hSw; go_simp; all_goals with_reducible rfl)
        try simp only [Act.put, List.setIfInBounds_toArray, List.set_cons_zero, List.set_cons_succ]
        refine take_in (i := 14) (v := ?vz3_14) rfl (by kernel_rfl) (fun _ _ _ h => h) rfl ?hz3_14 hHeld ?rz3_14
        case hz3_14 => (intro w hSw; go_simp; all_goals with_reducible rfl)
        try simp only [Act.put, List.setIfInBounds_toArray, List.set_cons_zero, List.set_cons_succ]
        refine take_in (i := 15) (v := ?vz3_15) rfl (by kernel_rfl) (fun _ _ _ h => h) rfl ?hz3_15 hHeld ?rz3_15
        case hz3_15 => (intro w hSw; go_simp; all_goals with_reducible rfl)
        try simp only [Act.put, List.setIfInBounds_toArray, List.set_cons_zero, List.set_cons_succ]
        refine take_in (i := 16) (v := ?vz3_16) rfl (by kernel_rfl) (fun _ _ _ h => h) rfl ?hz3_16 hHeld ?rz3_16
        case hz3_16 => (intro w hSw; go_simp; all_goals with_reducible rfl)
        try simp only [Act.put, List.setIfInBounds_toArray, List.set_cons_zero, List.set_cons_succ]
        refine take_in (i := 17) (v := ?vz3_17) rfl (by kernel_rfl) (fun _ _ _ h => h) rfl ?hz3_17 hHeld ?rz3_17
        case hz3_17 => (intro w hSw; go_simp; all_goals with_reducible rfl)
        try simp only [Act.put, List.setIfInBounds_toArray, List.set_cons_zero, List.set_cons_succ]
        refine take_in (i := 18) (v := ?vz3_18) rfl (by kernel_rfl) (fun _ _ _ h => h) rfl ?hz3_18 hHeld ?rz3_18
        case hz3_18 => (intro w hSw; go_simp; all_goals with_reducible rfl)
        try simp only [Act.put, List.setIfInBounds_toArray, List.set_cons_zero, List.set_cons_succ]
        refine take_out (i := 19) rfl (by kernel_rfl) (fun _ _ _ h => h) rfl hHeld ?_
        try simp only [Act.put, List.setIfInBounds_toArray, List.set_cons_zero, List.set_cons_succ]
        refine take_out (i := 20) rfl (by kernel_rfl) (fun _ _ _ h => h) rfl hHeld ?_
        try simp only [Act.put, List.setIfInBounds_toArray, List.set_cons_zero, List.set_cons_succ]
        refine take_out (i := 21) rfl (by kernel_rfl) (fun _ _ _ h => h) rfl hHeld ?_
        try simp only [Act.put, List.setIfInBounds_toArray, List.set_cons_zero, List.set_cons_succ]
        refine take_in (i := 22) (v := ?vz3_22) rfl (by kernel_rfl) (fun _ _ _ h => h) rfl ?hz3_22 hHeld ?rz3_22
        case hz3_22 => (intro w hSw; go_simp; all_goals with_reducible rfl)
        try simp only [Act.put, List.setIfInBounds_toArray, List.set_cons_zero, List.set_cons_succ]
        refine take_in (i := 23) (v := ?vz3_23) rfl (by kernel_rfl) (fun _ _ _ h => h) rfl ?hz3_23 hHeld ?rz3_23
        case hz3_23 => (intro w hSw; go_simp; all_goals with_reducible rfl)
        try simp only [Act.put, List.setIfInBounds_toArray, List.set_cons_zero, List.set_cons_succ]
        refine take_out (i := 24) rfl (by kernel_rfl) (fun _ _ _ h => h) rfl hHeld ?_
        try simp only [Act.put, List.setIfInBounds_toArray, List.set_cons_zero, List.set_cons_succ]
        refine take_out (i := 25) rfl (by kernel_rfl) (fun _ _ _ h => h) rfl hHeld ?_
        try simp only [Act.put, List.setIfInBounds_toArray, List.set_cons_zero, List.set_cons_succ]
        refine take_out (i := 26) rfl (by kernel_rfl) (fun _ _ _ h => h) rfl hHeld ?_
        try simp only [Act.put, List.setIfInBounds_toArray, List.set_cons_zero, List.set_cons_succ]
        refine take_out (i := 27) rfl (by kernel_rfl) (fun _ _ _ h => h) rfl hHeld ?_
        try simp only [Act.put, List.setIfInBounds_toArray, List.set_cons_zero, List.set_cons_succ]
        refine take_out (i := 28) rfl (by kernel_rfl) (fun _ _ _ h => h) rfl hHeld ?_
        try simp only [Act.put, List.setIfInBounds_toArray, List.set_cons_zero, List.set_cons_succ]
        refine take_out (i := 29) rfl (by kernel_rfl) (fun _ _ _ h => h) rfl hHeld ?_
        try simp only [Act.put, List.setIfInBounds_toArray, List.set_cons_zero, List.set_cons_succ]
        refine take_in (i := 30) (v := ?vz3_30) rfl (by kernel_rfl) (fun _ _ _ h => h) rfl ?hz3_30 hHeld ?rz3_30
        case hz3_30 => (intro w hSw; go_simp; all_goals with_reducible rfl)
        try simp only [Act.put, List.setIfInBounds_toArray, List.set_cons_zero, List.set_cons_succ]
        refine wpAnyH_done (by kernel_rfl) ?_ _
        go_wp2_with fail
        refine (alive_any _).mono ?_
        rintro e w' ⟨rfl, rfl⟩
        go_wp2_with fail
        go_ret
        exact ⟨rfl, HWD.out⟩
      have c3' : (s == b) = false := by simpa using c3
      by_cases c4 : a = 0
      · have c4' : (a == 0) = true := by simpa using c4
        clear c4 c3
        refine wp_region_held_drew (S := fun w' => w'.cell? ⟨w1.heap.size, 0, none⟩ = some (.int .i64 a) ∧ w'.cell? ⟨w1.heap.size, 1, none⟩ = some (.int .i64 b)) (by kernel_rfl) ⟨hc0, hc1⟩ (fun hHeld => ?_)
        refine take_in (i := 0) (v := ?vz4_0) rfl (by kernel_rfl) (fun _ _ _ h => h) rfl ?hz4_0 hHeld ?rz4_0
        case hz4_0 => (intro w hSw; go_simp; all_goals with_reducible rfl)
        try simp only [Act.put, List.setIfInBounds_toArray, List.set_cons_zero, List.set_cons_succ]
        refine take_in (i := 1) (v := ?vz4_1) rfl (by kernel_rfl) (fun _ _ _ h => h) rfl ?hz4_1 hHeld ?rz4_1
        case hz4_1 => (intro w hSw; go_simp; all_goals with_reducible rfl)
        try simp only [Act.put, List.setIfInBounds_toArray, List.set_cons_zero, List.set_cons_succ]
        refine wpAnyH_ready (rs := [2]) (by kernel_rfl) (by simp) ?_
        refine AllReadyH.cons rfl (fun K hK => ?_) AllReadyH.nil
        go_simp
        go_at_call 52
        refine (specQuoteOk_v HQ.out w.drew).mono ?_
        rintro e wq ⟨rfl, rfl⟩
        refine hK.out _ _ HD.out (fun hHeld => ?_)
        clear hK K
        try simp only [Act.put, List.setIfInBounds_toArray, List.set_cons_zero, List.set_cons_succ]
        refine take_in (i := 3) (v := ?vz4_3) rfl (by kernel_rfl) (fun _ _ _ h => h) rfl ?hz4_3 hHeld ?rz4_3
        case hz4_3 => (intro w hSw; go_simp; all_goals with_reducible rfl)
        try simp only [Act.put, List.setIfInBounds_toArray, List.set_cons_zero, List.set_cons_succ]
        refine take_in (i := 4) (v := ?vz4_4) rfl (by kernel_rfl) (fun _ _ _ h => h) rfl ?hz4_4 hHeld ?rz4_4
        case hz4_4 => (intro w hSw; go_simp; all_goals with_reducible rfl)
        try simp only [Act.put, List.setIfInBounds_toArray, List.set_cons_zero, List.set_cons_succ]
        refine take_in (i := 5) (v := ?vz4_5) rfl (by kernel_rfl) (fun _ _ _ h => h) rfl ?hz4_5 hHeld ?rz4_5
        case hz4_5 => (intro w hSw; go_simp; all_goals with_reducible rfl)
        try simp only [Act.put, List.setIfInBounds_toArray, List.set_cons_zero, List.set_cons_succ]
        refine take_in (i := 6) (v := ?vz4_6) rfl (by kernel_rfl) (fun _ _ _ h => h) rfl ?hz4_6 hHeld ?rz4_6
        case hz4_6 => (intro w hSw; go_simp; all_goals with_reducible rfl)
        try simp only [Act.put, List.setIfInBounds_toArray, List.set_cons_zero, List.set_cons_succ]
        refine take_in (i := 7) (v := ?vz4_7) rfl (by kernel_rfl) (fun _ _ _ h => h) rfl ?hz4_7 hHeld ?rz4_7
        case hz4_7 => (intro w hSw; go_simp; all_goals with_reducible rfl)
        try simp only [Act.put, List.setIfInBounds_toArray, List.set_cons_zero, List.set_cons_succ]
        refine take_in (i := 8) (v := ?vz4_8) rfl (by kernel_rfl) (fun _ _ _ h => h) rfl ?hz4_8 hHeld ?rz4_8
        case hz4_8 => (intro w hSw; go_simp; all_goals with_reducible rfl)
        try simp only [Act.put, List.setIfInBounds_toArray, List.set_cons_zero, List.set_cons_succ]
        refine take_in (i := 9) (v := ?vz4_9) rfl (by kernel_rfl) (fun _ _ _ h => h) rfl ?hz4_9 hHeld ?rz4_9
        case hz4_9 => (intro w hSw; go_simp; all_goals with_reducible rfl)
        try simp only [Act.put, List.setIfInBounds_toArray, List.set_cons_zero, List.set_cons_succ]
        refine take_in (i := 10) (v := ?vz4_10) rfl (by kernel_rfl) (fun _ _ _ h => h) rfl ?hz4_10 hHeld ?rz4_10
        case hz4_10 => (intro w hSw; go_simp; all_goals with_reducible rfl)
        try simp only [Act.put, List.setIfInBounds_toArray, List.set_cons_zero, List.set_cons_succ]
        refine take_in (i := 11) (v := ?vz4_11) rfl (by kernel_rfl) (fun _ _ _ h => h) rfl ?hz4_11 hHeld ?rz4_11
        case hz4_11 => (intro w hSw; go_simp; all_goals with_reducible rfl)
        try simp only [Act.put, List.setIfInBounds_toArray, List.set_cons_zero, List.set_cons_succ]
        refine take_in (i := 12) (v := ?vz4_12) rfl (by kernel_rfl) (fun _ _ _ h => h) rfl ?hz4_12 hHeld ?rz4_12
        case hz4_12 => (intro w hSw; go_simp; all_goals with_reducible rfl)
        try simp only [Act.put, List.setIfInBounds_toArray, List.set_cons_zero, List.set_cons_succ]
        refine take_in (i := 13) (v := ?vz4_13) rfl (by kernel_rfl) (fun _ _ _ h => h) rfl ?hz4_13 hHeld ?rz4_13
        case hz4_13 => (intro w hSw; go_simp; all_goals with_reducible rfl)
        try simp only [Act.put, List.setIfInBounds_toArray, List.set_cons_zero, List.set_cons_succ]
        refine take_in (i := 14) (v := ?vz4_14) rfl (by kernel_rfl) (fun _ _ _ h => h) rfl ?hz4_14 hHeld ?rz4_14
        case hz4_14 => (intro w hSw; go_simp; all_goals with_reducible rfl)
        try simp only [Act.put, List.setIfInBounds_toArray, List.set_cons_zero, List.set_cons_succ]
        refine take_in (i := 15) (v := ?vz4_15) rfl (by kernel_rfl) (fun _ _ _ h => h) rfl ?hz4_15 hHeld ?rz4_15
        case hz4_15 => (intro w hSw; go_simp; all_goals with_reducible rfl)
        try simp only [Act.put, List.setIfInBounds_toArray, List.set_cons_zero, List.set_cons_succ]
        refine take_in (i := 16) (v := ?vz4_16) rfl (by kernel_rfl) (fun _ _ _ h => h) rfl ?hz4_16 hHeld ?rz4_16
        case hz4_16 => (intro w hSw; go_simp; all_goals with_reducible rfl)
        try simp only [Act.put, List.setIfInBounds_toArray, List.set_cons_zero, List.set_cons_succ]
        refine take_in (i := 17) (v := ?vz4_17) rfl (by kernel_rfl) (fun _ _ _ h => h) rfl ?hz4_17 hHeld ?rz4_17
        case hz4_17 => (intro w hSw; go_simp; all_goals with_reducible rfl)
        try simp only [Act.put, List.setIfInBounds_toArray, List.set_cons_zero, List.set_cons_succ]
        refine take_in (i := 18) (v := ?vz4_18) rfl (by kernel_rfl) (fun _ _ _ h => h) rfl ?hz4_18 hHeld ?rz4_18
        case hz4_18 => (intro w hSw; go_simp; all_goals with_reducible rfl)
        try simp only [Act.put, List.setIfInBounds_toArray, List.set_cons_zero, List.set_cons_succ]
        refine take_in (i := 19) (v := ?vz4_19) rfl (by kernel_rfl) (fun _ _ _ h => h) rfl ?hz4_19 hHeld ?rz4_19
        case hz4_19 => (intro w hSw; go_simp; all_goals with_reducible rfl)
        try simp only [Act.put, List.setIfInBounds_toArray, List.set_cons_zero, List.set_cons_succ]
        refine take_in (i := 20) (v := ?vz4_20) rfl (by kernel_rfl) (fun _ _ _ h => h) rfl ?hz4_20 hHeld ?rz4_20
        case hz4_20 => (intro w hSw; go_simp; all_goals with_reducible rfl)
        try simp only [Act.put, List.setIfInBounds_toArray, List.set_cons_zero, List.set_cons_succ]
        refine take_in (i := 21) (v := ?vz4_21) rfl (by kernel_rfl) (fun _ _ _ h => h) rfl ?hz4_21 hHeld ?rz4_21
        case hz4_21 => (intro w hSw; go_simp; all_goals with_reducible rfl)
        try simp only [Act.put, List.setIfInBounds_toArray, List.set_cons_zero, List.set_cons_succ]
        refine take_in (i := 22) (v := ?vz4_22) rfl (by kernel_rfl) (fun _ _ _ h => h) rfl ?hz4_22 hHeld ?rz4_22
        case hz4_22 => (intro w hSw; go_simp; all_goals with_reducible rfl)
        try simp only [Act.put, List.setIfInBounds_toArray, List.set_cons_zero, List.set_cons_succ]
        refine take_in (i := 23) (v := ?vz4_23) rfl (by kernel_rfl) (fun _ _ _ h => h) rfl ?hz4_23 hHeld ?rz4_23
        case hz4_23 => (intro w hSw; go_simp; all_goals with_reducible rfl)
        try simp only [Act.put, List.setIfInBounds_toArray, List.set_cons_zero, List.set_cons_succ]
        refine take_out (i := 24) rfl (by kernel_rfl) (fun _ _ _ h => h) rfl hHeld ?_
        try simp only [Act.put, List.setIfInBounds_toArray, List.set_cons_zero, List.set_cons_succ]
        refine take_out (i := 25) rfl (by kernel_rfl) (fun _ _ _ h => h) rfl hHeld ?_
        try simp only [Act.put, List.setIfInBounds_toArray, List.set_cons_zero, List.set_cons_succ]
        refine take_out (i := 26) rfl (by kernel_rfl) (fun _ _ _ h => h) rfl hHeld ?_
        try simp only [Act.put, List.setIfInBounds_toArray, List.set_cons_zero, List.set_cons_succ]
        refine take_out (i := 27) rfl (by kernel_rfl) (fun _ _ _ h => h) rfl hHeld ?_
        try simp only [Act.put, List.setIfInBounds_toArray, List.set_cons_zero, List.set_cons_succ]
        refine take_out (i := 28) rfl (by kernel_rfl) (fun _ _ _ h => h) rfl hHeld ?_
        try simp only [Act.put, List.setIfInBounds_toArray, List.set_cons_zero, List.set_cons_succ]
        refine take_out (i := 29) rfl (by kernel_rfl) (fun _ _ _ h => h) rfl hHeld ?_
        try simp only [Act.put, List.setIfInBounds_toArray, List.set_cons_zero, List.set_cons_succ]
        refine take_in (i := 30) (v := ?vz4_30) rfl (by kernel_rfl) (fun _ _ _ h => h) rfl ?hz4_30 hHeld ?rz4_30
        case hz4_30 => (intro w hSw; go_simp; all_goals with_reducible rfl)
        try simp only [Act.put, List.setIfInBounds_toArray, List.set_cons_zero, List.set_cons_succ]
        refine wpAnyH_done (by kernel_rfl) ?_ _
        go_wp2_with fail
        refine (alive_any _).mono ?_
        rintro e w' ⟨rfl, rfl⟩
        go_wp2_with fail
        go_ret
        exact ⟨rfl, HWD.out⟩
      have c4' : (a == 0) = false := by simpa using c4
      have HF : Hid (a ≠ allI n → lossOk n [(a, b), (a, s)] = true ∧ lossR n [(a, b), (a, s)] = pairS b s ∧ sureI n [(a, b), (a, s)] = -pairD b s) := Lib.hid (fun h => two_facts HQ.out c1' c2' c3 c4 h)
      obtain rfl | rfl | rfl | rfl : n = 1 ∨ n = 2 ∨ n = 3 ∨ n = 4 := by omega
      · have hw1 : IntKind.i64.wrap 2 = 2 := by decide
        have hw2 : IntKind.i64.wrap 1 = 1 := by decide
        by_cases c5 : a = 1
        · have c5' : (a == 1) = true := by simpa using c5
          clear c5 c4 c3 HF
          refine wp_region_held_drew (S := fun w' => w'.cell? ⟨w1.heap.size, 0, none⟩ = some (.int .i64 a) ∧ w'.cell? ⟨w1.heap.size, 1, none⟩ = some (.int .i64 b)) (by kernel_rfl) ⟨hc0, hc1⟩ (fun hHeld => ?_)
          refine take_in (i := 0) (v := ?vz5_0) rfl (by kernel_rfl) (fun _ _ _ h => h) rfl ?hz5_0 hHeld ?rz5_0
          case hz5_0 => (intro w hSw; go_simp; all_goals with_reducible rfl)
          try simp only [Act.put, List.setIfInBounds_toArray, List.set_cons_zero, List.set_cons_succ]
          refine take_in (i := 1) (v := ?vz5_1) rfl (by kernel_rfl) (fun _ _ _ h => h) rfl ?hz5_1 hHeld ?rz5_1
          case hz5_1 => (intro w hSw; go_simp; all_goals with_reducible rfl)
          try simp only [Act.put, List.setIfInBounds_toArray, List.set_cons_zero, List.set_cons_succ]
          refine wpAnyH_ready (rs := [2]) (by kernel_rfl) (by simp) ?_
          refine AllReadyH.cons rfl (fun K hK => ?_) AllReadyH.nil
          go_simp
          go_at_call 52
          refine (specQuoteOk_v HQ.out w.drew).mono ?_
          rintro e wq ⟨rfl, rfl⟩
          refine hK.out _ _ HD.out (fun hHeld => ?_)
          clear hK K
          try simp only [Act.put, List.setIfInBounds_toArray, List.set_cons_zero, List.set_cons_succ]
          refine take_in (i := 3) (v := ?vz5_3) rfl (by kernel_rfl) (fun _ _ _ h => h) rfl ?hz5_3 hHeld ?rz5_3
          case hz5_3 => (intro w hSw; go_simp; all_goals with_reducible rfl)
          try simp only [Act.put, List.setIfInBounds_toArray, List.set_cons_zero, List.set_cons_succ]
          refine take_in (i := 4) (v := ?vz5_4) rfl (by kernel_rfl) (fun _ _ _ h => h) rfl ?hz5_4 hHeld ?rz5_4
          case hz5_4 => (intro w hSw; go_simp; all_goals with_reducible rfl)
          try simp only [Act.put, List.setIfInBounds_toArray, List.set_cons_zero, List.set_cons_succ]
          refine take_in (i := 5) (v := ?vz5_5) rfl (by kernel_rfl) (fun _ _ _ h => h) rfl ?hz5_5 hHeld ?rz5_5
          case hz5_5 => (intro w hSw; go_simp; all_goals with_reducible rfl)
          try simp only [Act.put, List.setIfInBounds_toArray, List.set_cons_zero, List.set_cons_succ]
          refine take_in (i := 6) (v := ?vz5_6) rfl (by kernel_rfl) (fun _ _ _ h => h) rfl ?hz5_6 hHeld ?rz5_6
          case hz5_6 => (intro w hSw; go_simp; all_goals with_reducible rfl)
          try simp only [Act.put, List.setIfInBounds_toArray, List.set_cons_zero, List.set_cons_succ]
          refine take_in (i := 7) (v := ?vz5_7) rfl (by kernel_rfl) (fun _ _ _ h => h) rfl ?hz5_7 hHeld ?rz5_7
          case hz5_7 => (intro w hSw; go_simp; all_goals with_reducible rfl)
          try simp only [Act.put, List.setIfInBounds_toArray, List.set_cons_zero, List.set_cons_succ]
          refine take_in (i := 8) (v := ?vz5_8) rfl (by kernel_rfl) (fun _ _ _ h => h) rfl ?hz5_8 hHeld ?rz5_8
          case hz5_8 => (intro w hSw; go_simp; all_goals with_reducible rfl)
          try simp only [Act.put, List.setIfInBounds_toArray, List.set_cons_zero, List.set_cons_succ]
          refine take_in (i := 9) (v := ?vz5_9) rfl (by kernel_rfl) (fun _ _ _ h => h) rfl ?hz5_9 hHeld ?rz5_9
          case hz5_9 => (intro w hSw; go_simp; all_goals with_reducible rfl)
          try simp only [Act.put, List.setIfInBounds_toArray, List.set_cons_zero, List.set_cons_succ]
          refine take_in (i := 10) (v := ?vz5_10) rfl (by kernel_rfl) (fun _ _ _ h => h) rfl ?hz5_10 hHeld ?rz5_10
          case hz5_10 => (intro w hSw; go_simp; all_goals with_reducible rfl)
          try simp only [Act.put, List.setIfInBounds_toArray, List.set_cons_zero, List.set_cons_succ]
          refine take_in (i := 11) (v := ?vz5_11) rfl (by kernel_rfl) (fun _ _ _ h => h) rfl ?hz5_11 hHeld ?rz5_11
          case hz5_11 => (intro w hSw; go_simp; all_goals with_reducible rfl)
          try simp only [Act.put, List.setIfInBounds_toArray, List.set_cons_zero, List.set_cons_succ]
          refine take_in (i := 12) (v := ?vz5_12) rfl (by kernel_rfl) (fun _ _ _ h => h) rfl ?hz5_12 hHeld ?rz5_12
          case hz5_12 => (intro w hSw; go_simp; all_goals with_reducible rfl)
          try simp only [Act.put, List.setIfInBounds_toArray, List.set_cons_zero, List.set_cons_succ]
          refine take_in (i := 13) (v := ?vz5_13) rfl (by kernel_rfl) (fun _ _ _ h => h) rfl ?hz5_13 hHeld ?rz5_13
          case hz5_13 => (intro w hSw; go_simp; all_goals with_reducible rfl)
          try simp only [Act.put, List.setIfInBounds_toArray, List.set_cons_zero, List.set_cons_succ]
          refine take_in (i := 14) (v := ?vz5_14) rfl (by kernel_rfl) (fun _ _ _ h => h) rfl ?hz5_14 hHeld ?rz5_14
          case hz5_14 => (intro w hSw; go_simp; all_goals with_reducible rfl)
          try simp only [Act.put, List.setIfInBounds_toArray, List.set_cons_zero, List.set_cons_succ]
          refine take_in (i := 15) (v := ?vz5_15) rfl (by kernel_rfl) (fun _ _ _ h => h) rfl ?hz5_15 hHeld ?rz5_15
          case hz5_15 => (intro w hSw; go_simp; all_goals with_reducible rfl)
          try simp only [Act.put, List.setIfInBounds_toArray, List.set_cons_zero, List.set_cons_succ]
          refine take_in (i := 16) (v := ?vz5_16) rfl (by kernel_rfl) (fun _ _ _ h => h) rfl ?hz5_16 hHeld ?rz5_16
          case hz5_16 => (intro w hSw; go_simp; all_goals with_reducible rfl)
          try simp only [Act.put, List.setIfInBounds_toArray, List.set_cons_zero, List.set_cons_succ]
          refine take_in (i := 17) (v := ?vz5_17) rfl (by kernel_rfl) (fun _ _ _ h => h) rfl ?hz5_17 hHeld ?rz5_17
          case hz5_17 => (intro w hSw; go_simp; all_goals with_reducible rfl)
          try simp only [Act.put, List.setIfInBounds_toArray, List.set_cons_zero, List.set_cons_succ]
          refine take_in (i := 18) (v := ?vz5_18) rfl (by kernel_rfl) (fun _ _ _ h => h) rfl ?hz5_18 hHeld ?rz5_18
          case hz5_18 => (intro w hSw; go_simp; all_goals with_reducible rfl)
          try simp only [Act.put, List.setIfInBounds_toArray, List.set_cons_zero, List.set_cons_succ]
          refine take_in (i := 19) (v := ?vz5_19) rfl (by kernel_rfl) (fun _ _ _ h => h) rfl ?hz5_19 hHeld ?rz5_19
          case hz5_19 => (intro w hSw; go_simp; all_goals with_reducible rfl)
          try simp only [Act.put, List.setIfInBounds_toArray, List.set_cons_zero, List.set_cons_succ]
          refine take_in (i := 20) (v := ?vz5_20) rfl (by kernel_rfl) (fun _ _ _ h => h) rfl ?hz5_20 hHeld ?rz5_20
          case hz5_20 => (intro w hSw; go_simp; all_goals with_reducible rfl)
          try simp only [Act.put, List.setIfInBounds_toArray, List.set_cons_zero, List.set_cons_succ]
          refine take_in (i := 21) (v := ?vz5_21) rfl (by kernel_rfl) (fun _ _ _ h => h) rfl ?hz5_21 hHeld ?rz5_21
          case hz5_21 => (intro w hSw; go_simp; all_goals with_reducible rfl)
          try simp only [Act.put, List.setIfInBounds_toArray, List.set_cons_zero, List.set_cons_succ]
          refine take_in (i := 22) (v := ?vz5_22) rfl (by kernel_rfl) (fun _ _ _ h => h) rfl ?hz5_22 hHeld ?rz5_22
          case hz5_22 => (intro w hSw; go_simp; all_goals with_reducible rfl)
          try simp only [Act.put, List.setIfInBounds_toArray, List.set_cons_zero, List.set_cons_succ]
          refine take_in (i := 23) (v := ?vz5_23) rfl (by kernel_rfl) (fun _ _ _ h => h) rfl ?hz5_23 hHeld ?rz5_23
          case hz5_23 => (intro w hSw; go_simp; all_goals with_reducible rfl)
          try simp only [Act.put, List.setIfInBounds_toArray, List.set_cons_zero, List.set_cons_succ]
          refine take_in (i := 24) (v := ?vz5_24) rfl (by kernel_rfl) (fun _ _ _ h => h) rfl ?hz5_24 hHeld ?rz5_24
          case hz5_24 => (intro w hSw; go_simp; all_goals with_reducible rfl)
          try simp only [Act.put, List.setIfInBounds_toArray, List.set_cons_zero, List.set_cons_succ]
          refine take_in (i := 25) (v := ?vz5_25) rfl (by kernel_rfl) (fun _ _ _ h => h) rfl ?hz5_25 hHeld ?rz5_25
          case hz5_25 => (intro w hSw; go_simp; all_goals with_reducible rfl)
          try simp only [Act.put, List.setIfInBounds_toArray, List.set_cons_zero, List.set_cons_succ]
          refine take_in (i := 26) (v := ?vz5_26) rfl (by kernel_rfl) (fun _ _ _ h => h) rfl ?hz5_26 hHeld ?rz5_26
          case hz5_26 => (intro w hSw; go_simp; all_goals with_reducible rfl)
          try simp only [Act.put, List.setIfInBounds_toArray, List.set_cons_zero, List.set_cons_succ]
          refine take_in (i := 27) (v := ?vz5_27) rfl (by kernel_rfl) (fun _ _ _ h => h) rfl ?hz5_27 hHeld ?rz5_27
          case hz5_27 => (intro w hSw; go_simp; all_goals with_reducible rfl)
          try simp only [Act.put, List.setIfInBounds_toArray, List.set_cons_zero, List.set_cons_succ]
          refine take_in (i := 28) (v := ?vz5_28) rfl (by kernel_rfl) (fun _ _ _ h => h) rfl ?hz5_28 hHeld ?rz5_28
          case hz5_28 => (intro w hSw; go_simp; all_goals with_reducible rfl)
          try simp only [Act.put, List.setIfInBounds_toArray, List.set_cons_zero, List.set_cons_succ]
          refine take_in (i := 29) (v := ?vz5_29) rfl (by kernel_rfl) (fun _ _ _ h => h) rfl ?hz5_29 hHeld ?rz5_29
          case hz5_29 => (intro w hSw; go_simp; all_goals with_reducible rfl)
          try simp only [Act.put, List.setIfInBounds_toArray, List.set_cons_zero, List.set_cons_succ]
          refine take_in (i := 30) (v := ?vz5_30) rfl (by kernel_rfl) (fun _ _ _ h => h) rfl ?hz5_30 hHeld ?rz5_30
          case hz5_30 => (intro w hSw; go_simp; all_goals with_reducible rfl)
          try simp only [Act.put, List.setIfInBounds_toArray, List.set_cons_zero, List.set_cons_succ]
          refine wpAnyH_done (by kernel_rfl) ?_ _
          go_wp2_with fail
          refine (alive_any _).mono ?_
          rintro e w' ⟨rfl, rfl⟩
          go_wp2_with fail
          go_ret
          exact ⟨rfl, HWD.out⟩
        have c5' : (a == 1) = false := by simpa using c5
        have HL := Lib.hid (HF.out (by rw [show allI 1 = 1 from by decide]; exact c5))
        clear c3 c4 c5 HF g1
        refine wp_region_held_drew (S := fun w' => w'.cell? ⟨w1.heap.size, 0, none⟩ = some (.int .i64 a) ∧ w'.cell? ⟨w1.heap.size, 1, none⟩ = some (.int .i64 b)) (by kernel_rfl) ⟨hc0, hc1⟩ (fun hHeld => ?_)
        refine take_in (i := 0) (v := ?vz6_0) rfl (by kernel_rfl) (fun _ _ _ h => h) rfl ?hz6_0 hHeld ?rz6_0
        case hz6_0 => (intro w hSw; go_simp; all_goals with_reducible rfl)
        try simp only [Act.put, List.setIfInBounds_toArray, List.set_cons_zero, List.set_cons_succ]
        refine take_in (i := 1) (v := ?vz6_1) rfl (by kernel_rfl) (fun _ _ _ h => h) rfl ?hz6_1 hHeld ?rz6_1
        case hz6_1 => (intro w hSw; go_simp; all_goals with_reducible rfl)
        try simp only [Act.put, List.setIfInBounds_toArray, List.set_cons_zero, List.set_cons_succ]
        refine wpAnyH_ready (rs := [2]) (by kernel_rfl) (by simp) ?_
        refine AllReadyH.cons rfl (fun K hK => ?_) AllReadyH.nil
        go_simp
        go_at_call 52
        refine (specQuoteOk_v HQ.out w.drew).mono ?_
        rintro e wq ⟨rfl, rfl⟩
        refine hK.out _ _ HD.out (fun hHeld => ?_)
        clear hK K
        try simp only [Act.put, List.setIfInBounds_toArray, List.set_cons_zero, List.set_cons_succ]
        refine take_in (i := 3) (v := ?vz6_3) rfl (by kernel_rfl) (fun _ _ _ h => h) rfl ?hz6_3 hHeld ?rz6_3
        case hz6_3 => (intro w hSw; go_simp; all_goals with_reducible rfl)
        try simp only [Act.put, List.setIfInBounds_toArray, List.set_cons_zero, List.set_cons_succ]
        refine take_in (i := 4) (v := ?vz6_4) rfl (by kernel_rfl) (fun _ _ _ h => h) rfl ?hz6_4 hHeld ?rz6_4
        case hz6_4 => (intro w hSw; go_simp; all_goals with_reducible rfl)
        try simp only [Act.put, List.setIfInBounds_toArray, List.set_cons_zero, List.set_cons_succ]
        refine take_in (i := 5) (v := ?vz6_5) rfl (by kernel_rfl) (fun _ _ _ h => h) rfl ?hz6_5 hHeld ?rz6_5
        case hz6_5 => (intro w hSw; go_simp; all_goals with_reducible rfl)
        try simp only [Act.put, List.setIfInBounds_toArray, List.set_cons_zero, List.set_cons_succ]
        refine take_in (i := 6) (v := ?vz6_6) rfl (by kernel_rfl) (fun _ _ _ h => h) rfl ?hz6_6 hHeld ?rz6_6
        case hz6_6 => (intro w hSw; go_simp; all_goals with_reducible rfl)
        try simp only [Act.put, List.setIfInBounds_toArray, List.set_cons_zero, List.set_cons_succ]
        refine take_in (i := 7) (v := ?vz6_7) rfl (by kernel_rfl) (fun _ _ _ h => h) rfl ?hz6_7 hHeld ?rz6_7
        case hz6_7 => (intro w hSw; go_simp; all_goals with_reducible rfl)
        try simp only [Act.put, List.setIfInBounds_toArray, List.set_cons_zero, List.set_cons_succ]
        refine take_in (i := 8) (v := ?vz6_8) rfl (by kernel_rfl) (fun _ _ _ h => h) rfl ?hz6_8 hHeld ?rz6_8
        case hz6_8 => (intro w hSw; go_simp; all_goals with_reducible rfl)
        try simp only [Act.put, List.setIfInBounds_toArray, List.set_cons_zero, List.set_cons_succ]
        refine take_in (i := 9) (v := ?vz6_9) rfl (by kernel_rfl) (fun _ _ _ h => h) rfl ?hz6_9 hHeld ?rz6_9
        case hz6_9 => (intro w hSw; go_simp; all_goals with_reducible rfl)
        try simp only [Act.put, List.setIfInBounds_toArray, List.set_cons_zero, List.set_cons_succ]
        refine take_in (i := 10) (v := ?vz6_10) rfl (by kernel_rfl) (fun _ _ _ h => h) rfl ?hz6_10 hHeld ?rz6_10
        case hz6_10 => (intro w hSw; go_simp; all_goals with_reducible rfl)
        try simp only [Act.put, List.setIfInBounds_toArray, List.set_cons_zero, List.set_cons_succ]
        refine take_in (i := 11) (v := ?vz6_11) rfl (by kernel_rfl) (fun _ _ _ h => h) rfl ?hz6_11 hHeld ?rz6_11
        case hz6_11 => (intro w hSw; go_simp; all_goals with_reducible rfl)
        try simp only [Act.put, List.setIfInBounds_toArray, List.set_cons_zero, List.set_cons_succ]
        refine take_in (i := 12) (v := ?vz6_12) rfl (by kernel_rfl) (fun _ _ _ h => h) rfl ?hz6_12 hHeld ?rz6_12
        case hz6_12 => (intro w hSw; go_simp; all_goals with_reducible rfl)
        try simp only [Act.put, List.setIfInBounds_toArray, List.set_cons_zero, List.set_cons_succ]
        refine take_in (i := 13) (v := ?vz6_13) rfl (by kernel_rfl) (fun _ _ _ h => h) rfl ?hz6_13 hHeld ?rz6_13
        case hz6_13 => (intro w hSw; go_simp; all_goals with_reducible rfl)
        try simp only [Act.put, List.setIfInBounds_toArray, List.set_cons_zero, List.set_cons_succ]
        refine take_in (i := 14) (v := ?vz6_14) rfl (by kernel_rfl) (fun _ _ _ h => h) rfl ?hz6_14 hHeld ?rz6_14
        case hz6_14 => (intro w hSw; go_simp; all_goals with_reducible rfl)
        try simp only [Act.put, List.setIfInBounds_toArray, List.set_cons_zero, List.set_cons_succ]
        refine take_in (i := 15) (v := ?vz6_15) rfl (by kernel_rfl) (fun _ _ _ h => h) rfl ?hz6_15 hHeld ?rz6_15
        case hz6_15 => (intro w hSw; go_simp; all_goals with_reducible rfl)
        try simp only [Act.put, List.setIfInBounds_toArray, List.set_cons_zero, List.set_cons_succ]
        refine take_in (i := 16) (v := ?vz6_16) rfl (by kernel_rfl) (fun _ _ _ h => h) rfl ?hz6_16 hHeld ?rz6_16
        case hz6_16 => (intro w hSw; go_simp; all_goals with_reducible rfl)
        try simp only [Act.put, List.setIfInBounds_toArray, List.set_cons_zero, List.set_cons_succ]
        refine take_in (i := 17) (v := ?vz6_17) rfl (by kernel_rfl) (fun _ _ _ h => h) rfl ?hz6_17 hHeld ?rz6_17
        case hz6_17 => (intro w hSw; go_simp; all_goals with_reducible rfl)
        try simp only [Act.put, List.setIfInBounds_toArray, List.set_cons_zero, List.set_cons_succ]
        refine take_in (i := 18) (v := ?vz6_18) rfl (by kernel_rfl) (fun _ _ _ h => h) rfl ?hz6_18 hHeld ?rz6_18
        case hz6_18 => (intro w hSw; go_simp; all_goals with_reducible rfl)
        try simp only [Act.put, List.setIfInBounds_toArray, List.set_cons_zero, List.set_cons_succ]
        refine take_in (i := 19) (v := ?vz6_19) rfl (by kernel_rfl) (fun _ _ _ h => h) rfl ?hz6_19 hHeld ?rz6_19
        case hz6_19 => (intro w hSw; go_simp; all_goals with_reducible rfl)
        try simp only [Act.put, List.setIfInBounds_toArray, List.set_cons_zero, List.set_cons_succ]
        refine take_in (i := 20) (v := ?vz6_20) rfl (by kernel_rfl) (fun _ _ _ h => h) rfl ?hz6_20 hHeld ?rz6_20
        case hz6_20 => (intro w hSw; go_simp; all_goals with_reducible rfl)
        try simp only [Act.put, List.setIfInBounds_toArray, List.set_cons_zero, List.set_cons_succ]
        refine take_in (i := 21) (v := ?vz6_21) rfl (by kernel_rfl) (fun _ _ _ h => h) rfl ?hz6_21 hHeld ?rz6_21
        case hz6_21 => (intro w hSw; go_simp; all_goals with_reducible rfl)
        try simp only [Act.put, List.setIfInBounds_toArray, List.set_cons_zero, List.set_cons_succ]
        refine take_in (i := 22) (v := ?vz6_22) rfl (by kernel_rfl) (fun _ _ _ h => h) rfl ?hz6_22 hHeld ?rz6_22
        case hz6_22 => (intro w hSw; go_simp; all_goals with_reducible rfl)
        try simp only [Act.put, List.setIfInBounds_toArray, List.set_cons_zero, List.set_cons_succ]
        refine take_in (i := 23) (v := ?vz6_23) rfl (by kernel_rfl) (fun _ _ _ h => h) rfl ?hz6_23 hHeld ?rz6_23
        case hz6_23 => (intro w hSw; go_simp; all_goals with_reducible rfl)
        try simp only [Act.put, List.setIfInBounds_toArray, List.set_cons_zero, List.set_cons_succ]
        refine take_in (i := 24) (v := ?vz6_24) rfl (by kernel_rfl) (fun _ _ _ h => h) rfl ?hz6_24 hHeld ?rz6_24
        case hz6_24 => (intro w hSw; go_simp; all_goals with_reducible rfl)
        try simp only [Act.put, List.setIfInBounds_toArray, List.set_cons_zero, List.set_cons_succ]
        refine take_in (i := 25) (v := ?vz6_25) rfl (by kernel_rfl) (fun _ _ _ h => h) rfl ?hz6_25 hHeld ?rz6_25
        case hz6_25 => (intro w hSw; go_simp; all_goals with_reducible rfl)
        try simp only [Act.put, List.setIfInBounds_toArray, List.set_cons_zero, List.set_cons_succ]
        refine take_in (i := 26) (v := ?vz6_26) rfl (by kernel_rfl) (fun _ _ _ h => h) rfl ?hz6_26 hHeld ?rz6_26
        case hz6_26 => (intro w hSw; go_simp; all_goals with_reducible rfl)
        try simp only [Act.put, List.setIfInBounds_toArray, List.set_cons_zero, List.set_cons_succ]
        refine take_in (i := 27) (v := ?vz6_27) rfl (by kernel_rfl) (fun _ _ _ h => h) rfl ?hz6_27 hHeld ?rz6_27
        case hz6_27 => (intro w hSw; go_simp; all_goals with_reducible rfl)
        try simp only [Act.put, List.setIfInBounds_toArray, List.set_cons_zero, List.set_cons_succ]
        refine take_in (i := 28) (v := ?vz6_28) rfl (by kernel_rfl) (fun _ _ _ h => h) rfl ?hz6_28 hHeld ?rz6_28
        case hz6_28 => (intro w hSw; go_simp; all_goals with_reducible rfl)
        try simp only [Act.put, List.setIfInBounds_toArray, List.set_cons_zero, List.set_cons_succ]
        refine take_in (i := 29) (v := ?vz6_29) rfl (by kernel_rfl) (fun _ _ _ h => h) rfl ?hz6_29 hHeld ?rz6_29
        case hz6_29 => (intro w hSw; go_simp; all_goals with_reducible rfl)
        try simp only [Act.put, List.setIfInBounds_toArray, List.set_cons_zero, List.set_cons_succ]
        refine take_in (i := 30) (v := ?vz6_30) rfl (by kernel_rfl) (fun _ _ _ h => h) rfl ?hz6_30 hHeld ?rz6_30
        case hz6_30 => (intro w hSw; go_simp; all_goals with_reducible rfl)
        try simp only [Act.put, List.setIfInBounds_toArray, List.set_cons_zero, List.set_cons_succ]
        refine wpAnyH_done (by kernel_rfl) ?_ _
        generalize w.drew.alloc (qBlk (a, b)) = u at HD HWD ⊢
        obtain ⟨e0, e1⟩ := HD.out
        clear hHeld hc0 hc1 HD HQ HC HW
        have hlt0 : w1.heap.size < u.heap.size := World.block_lt_of_cell? u _ e1
        by_cases hlt : s < b
        · have HL1 : Hid (lossOk 1 [(a, b), (a, s)] = true ∧ lossR 1 [(a, b), (a, s)] = [1, -1] ∧ sureI 1 [(a, b), (a, s)] = b - s) := Lib.hid (by
            obtain ⟨k1, k2, k3⟩ := HL.out
            refine ⟨k1, ?_, ?_⟩
            · rw [k2, pairS, if_pos hlt]
            · rw [k3, pairD, if_pos hlt]; omega)
          clear HL
          go_wp2_with fail
          refine (implLosingStakes_any _ _ _ _ (two_rd u a b s)).mono ?_
          rintro e x1 ⟨v, rfl, o1, b1⟩
          rw [HL1.out.1]
          rw [HL1.out.2.1] at o1
          obtain ⟨g, cap, rfl, hcap1, hcap2⟩ := o1.form (by simp)
          have HO1 := Lib.hid o1
          have HB1 := Lib.hid b1
          clear o1 b1
          go_wp2_with fail
          refine (implSureLossOf_any _ _ _ _ ((two_rd u a b s).keep (SameAt.of_below HB1.out))).mono ?_
          rintro e x2 ⟨rfl, b2⟩
          rw [HL1.out.1, HL1.out.2.2]
          have HO2 := Lib.hid (HO1.out.keep (SameAt.of_below b2))
          have hk0 : x2.cell? ⟨g, 0, none⟩ = some (.int .i64 (1)) := HO2.out.cellk rfl
          have hk1 : x2.cell? ⟨g, 1, none⟩ = some (.int .i64 (-1)) := HO2.out.cellk rfl
          have HBU : Hid (Below u.heap.size u x2) := Lib.hid (below_step ((Below.refl _ u).alloc (Nat.le_refl _) _) (below_step HB1.out b2 HB1.out.size) (by simp))
          have hf1 : x2.cell? ⟨w1.heap.size, 1, none⟩ = some (.int .i64 b) := (HBU.out.cell (p := ⟨w1.heap.size, 1, none⟩) hlt0).trans e1
          clear b2 e0 e1
          go_wp2_with fail
          go_ret
          exact ⟨ret_bool (by simp), below_step HWD.out HBU.out HWD.out.size⟩
        · have HL1 : Hid (lossOk 1 [(a, b), (a, s)] = true ∧ lossR 1 [(a, b), (a, s)] = [-1, 1] ∧ sureI 1 [(a, b), (a, s)] = s - b) := Lib.hid (by
            obtain ⟨k1, k2, k3⟩ := HL.out
            refine ⟨k1, ?_, ?_⟩
            · rw [k2, pairS, if_neg hlt]
            · rw [k3, pairD, if_neg hlt]; omega)
          clear HL
          go_wp2_with fail
          refine (implLosingStakes_any _ _ _ _ (two_rd u a b s)).mono ?_
          rintro e x1 ⟨v, rfl, o1, b1⟩
          rw [HL1.out.1]
          rw [HL1.out.2.1] at o1
          obtain ⟨g, cap, rfl, hcap1, hcap2⟩ := o1.form (by simp)
          have HO1 := Lib.hid o1
          have HB1 := Lib.hid b1
          clear o1 b1
          go_wp2_with fail
          refine (implSureLossOf_any _ _ _ _ ((two_rd u a b s).keep (SameAt.of_below HB1.out))).mono ?_
          rintro e x2 ⟨rfl, b2⟩
          rw [HL1.out.1, HL1.out.2.2]
          have HO2 := Lib.hid (HO1.out.keep (SameAt.of_below b2))
          have hk0 : x2.cell? ⟨g, 0, none⟩ = some (.int .i64 (-1)) := HO2.out.cellk rfl
          have hk1 : x2.cell? ⟨g, 1, none⟩ = some (.int .i64 (1)) := HO2.out.cellk rfl
          have HBU : Hid (Below u.heap.size u x2) := Lib.hid (below_step ((Below.refl _ u).alloc (Nat.le_refl _) _) (below_step HB1.out b2 HB1.out.size) (by simp))
          have hf1 : x2.cell? ⟨w1.heap.size, 1, none⟩ = some (.int .i64 b) := (HBU.out.cell (p := ⟨w1.heap.size, 1, none⟩) hlt0).trans e1
          clear b2 e0 e1
          go_wp2_with fail
          go_ret
          exact ⟨ret_bool (by simp), below_step HWD.out HBU.out HWD.out.size⟩
      · have hw1 : IntKind.i64.wrap 4 = 4 := by decide
        have hw2 : IntKind.i64.wrap 3 = 3 := by decide
        by_cases c5 : a = 3
        · have c5' : (a == 3) = true := by simpa using c5
          clear c5 c4 c3 HF
          refine wp_region_held_drew (S := fun w' => w'.cell? ⟨w1.heap.size, 0, none⟩ = some (.int .i64 a) ∧ w'.cell? ⟨w1.heap.size, 1, none⟩ = some (.int .i64 b)) (by kernel_rfl) ⟨hc0, hc1⟩ (fun hHeld => ?_)
          refine take_in (i := 0) (v := ?vz7_0) rfl (by kernel_rfl) (fun _ _ _ h => h) rfl ?hz7_0 hHeld ?rz7_0
          case hz7_0 => (intro w hSw; go_simp; all_goals with_reducible rfl)
          try simp only [Act.put, List.setIfInBounds_toArray, List.set_cons_zero, List.set_cons_succ]
          refine take_in (i := 1) (v := ?vz7_1) rfl (by kernel_rfl) (fun _ _ _ h => h) rfl ?hz7_1 hHeld ?rz7_1
          case hz7_1 => (intro w hSw; go_simp; all_goals with_reducible rfl)
          try simp only [Act.put, List.setIfInBounds_toArray, List.set_cons_zero, List.set_cons_succ]
          refine wpAnyH_ready (rs := [2]) (by kernel_rfl) (by simp) ?_
          refine AllReadyH.cons rfl (fun K hK => ?_) AllReadyH.nil
          go_simp
          go_at_call 52
          refine (specQuoteOk_v HQ.out w.drew).mono ?_
          rintro e wq ⟨rfl, rfl⟩
          refine hK.out _ _ HD.out (fun hHeld => ?_)
          clear hK K
          try simp only [Act.put, List.setIfInBounds_toArray, List.set_cons_zero, List.set_cons_succ]
          refine take_in (i := 3) (v := ?vz7_3) rfl (by kernel_rfl) (fun _ _ _ h => h) rfl ?hz7_3 hHeld ?rz7_3
          case hz7_3 => (intro w hSw; go_simp; all_goals with_reducible rfl)
          try simp only [Act.put, List.setIfInBounds_toArray, List.set_cons_zero, List.set_cons_succ]
          refine take_in (i := 4) (v := ?vz7_4) rfl (by kernel_rfl) (fun _ _ _ h => h) rfl ?hz7_4 hHeld ?rz7_4
          case hz7_4 => (intro w hSw; go_simp; all_goals with_reducible rfl)
          try simp only [Act.put, List.setIfInBounds_toArray, List.set_cons_zero, List.set_cons_succ]
          refine take_in (i := 5) (v := ?vz7_5) rfl (by kernel_rfl) (fun _ _ _ h => h) rfl ?hz7_5 hHeld ?rz7_5
          case hz7_5 => (intro w hSw; go_simp; all_goals with_reducible rfl)
          try simp only [Act.put, List.setIfInBounds_toArray, List.set_cons_zero, List.set_cons_succ]
          refine take_in (i := 6) (v := ?vz7_6) rfl (by kernel_rfl) (fun _ _ _ h => h) rfl ?hz7_6 hHeld ?rz7_6
          case hz7_6 => (intro w hSw; go_simp; all_goals with_reducible rfl)
          try simp only [Act.put, List.setIfInBounds_toArray, List.set_cons_zero, List.set_cons_succ]
          refine take_in (i := 7) (v := ?vz7_7) rfl (by kernel_rfl) (fun _ _ _ h => h) rfl ?hz7_7 hHeld ?rz7_7
          case hz7_7 => (intro w hSw; go_simp; all_goals with_reducible rfl)
          try simp only [Act.put, List.setIfInBounds_toArray, List.set_cons_zero, List.set_cons_succ]
          refine take_in (i := 8) (v := ?vz7_8) rfl (by kernel_rfl) (fun _ _ _ h => h) rfl ?hz7_8 hHeld ?rz7_8
          case hz7_8 => (intro w hSw; go_simp; all_goals with_reducible rfl)
          try simp only [Act.put, List.setIfInBounds_toArray, List.set_cons_zero, List.set_cons_succ]
          refine take_in (i := 9) (v := ?vz7_9) rfl (by kernel_rfl) (fun _ _ _ h => h) rfl ?hz7_9 hHeld ?rz7_9
          case hz7_9 => (intro w hSw; go_simp; all_goals with_reducible rfl)
          try simp only [Act.put, List.setIfInBounds_toArray, List.set_cons_zero, List.set_cons_succ]
          refine take_in (i := 10) (v := ?vz7_10) rfl (by kernel_rfl) (fun _ _ _ h => h) rfl ?hz7_10 hHeld ?rz7_10
          case hz7_10 => (intro w hSw; go_simp; all_goals with_reducible rfl)
          try simp only [Act.put, List.setIfInBounds_toArray, List.set_cons_zero, List.set_cons_succ]
          refine take_in (i := 11) (v := ?vz7_11) rfl (by kernel_rfl) (fun _ _ _ h => h) rfl ?hz7_11 hHeld ?rz7_11
          case hz7_11 => (intro w hSw; go_simp; all_goals with_reducible rfl)
          try simp only [Act.put, List.setIfInBounds_toArray, List.set_cons_zero, List.set_cons_succ]
          refine take_in (i := 12) (v := ?vz7_12) rfl (by kernel_rfl) (fun _ _ _ h => h) rfl ?hz7_12 hHeld ?rz7_12
          case hz7_12 => (intro w hSw; go_simp; all_goals with_reducible rfl)
          try simp only [Act.put, List.setIfInBounds_toArray, List.set_cons_zero, List.set_cons_succ]
          refine take_in (i := 13) (v := ?vz7_13) rfl (by kernel_rfl) (fun _ _ _ h => h) rfl ?hz7_13 hHeld ?rz7_13
          case hz7_13 => (intro w hSw; go_simp; all_goals with_reducible rfl)
          try simp only [Act.put, List.setIfInBounds_toArray, List.set_cons_zero, List.set_cons_succ]
          refine take_in (i := 14) (v := ?vz7_14) rfl (by kernel_rfl) (fun _ _ _ h => h) rfl ?hz7_14 hHeld ?rz7_14
          case hz7_14 => (intro w hSw; go_simp; all_goals with_reducible rfl)
          try simp only [Act.put, List.setIfInBounds_toArray, List.set_cons_zero, List.set_cons_succ]
          refine take_in (i := 15) (v := ?vz7_15) rfl (by kernel_rfl) (fun _ _ _ h => h) rfl ?hz7_15 hHeld ?rz7_15
          case hz7_15 => (intro w hSw; go_simp; all_goals with_reducible rfl)
          try simp only [Act.put, List.setIfInBounds_toArray, List.set_cons_zero, List.set_cons_succ]
          refine take_in (i := 16) (v := ?vz7_16) rfl (by kernel_rfl) (fun _ _ _ h => h) rfl ?hz7_16 hHeld ?rz7_16
          case hz7_16 => (intro w hSw; go_simp; all_goals with_reducible rfl)
          try simp only [Act.put, List.setIfInBounds_toArray, List.set_cons_zero, List.set_cons_succ]
          refine take_in (i := 17) (v := ?vz7_17) rfl (by kernel_rfl) (fun _ _ _ h => h) rfl ?hz7_17 hHeld ?rz7_17
          case hz7_17 => (intro w hSw; go_simp; all_goals with_reducible rfl)
          try simp only [Act.put, List.setIfInBounds_toArray, List.set_cons_zero, List.set_cons_succ]
          refine take_in (i := 18) (v := ?vz7_18) rfl (by kernel_rfl) (fun _ _ _ h => h) rfl ?hz7_18 hHeld ?rz7_18
          case hz7_18 => (intro w hSw; go_simp; all_goals with_reducible rfl)
          try simp only [Act.put, List.setIfInBounds_toArray, List.set_cons_zero, List.set_cons_succ]
          refine take_in (i := 19) (v := ?vz7_19) rfl (by kernel_rfl) (fun _ _ _ h => h) rfl ?hz7_19 hHeld ?rz7_19
          case hz7_19 => (intro w hSw; go_simp; all_goals with_reducible rfl)
          try simp only [Act.put, List.setIfInBounds_toArray, List.set_cons_zero, List.set_cons_succ]
          refine take_in (i := 20) (v := ?vz7_20) rfl (by kernel_rfl) (fun _ _ _ h => h) rfl ?hz7_20 hHeld ?rz7_20
          case hz7_20 => (intro w hSw; go_simp; all_goals with_reducible rfl)
          try simp only [Act.put, List.setIfInBounds_toArray, List.set_cons_zero, List.set_cons_succ]
          refine take_in (i := 21) (v := ?vz7_21) rfl (by kernel_rfl) (fun _ _ _ h => h) rfl ?hz7_21 hHeld ?rz7_21
          case hz7_21 => (intro w hSw; go_simp; all_goals with_reducible rfl)
          try simp only [Act.put, List.setIfInBounds_toArray, List.set_cons_zero, List.set_cons_succ]
          refine take_in (i := 22) (v := ?vz7_22) rfl (by kernel_rfl) (fun _ _ _ h => h) rfl ?hz7_22 hHeld ?rz7_22
          case hz7_22 => (intro w hSw; go_simp; all_goals with_reducible rfl)
          try simp only [Act.put, List.setIfInBounds_toArray, List.set_cons_zero, List.set_cons_succ]
          refine take_in (i := 23) (v := ?vz7_23) rfl (by kernel_rfl) (fun _ _ _ h => h) rfl ?hz7_23 hHeld ?rz7_23
          case hz7_23 => (intro w hSw; go_simp; all_goals with_reducible rfl)
          try simp only [Act.put, List.setIfInBounds_toArray, List.set_cons_zero, List.set_cons_succ]
          refine take_in (i := 24) (v := ?vz7_24) rfl (by kernel_rfl) (fun _ _ _ h => h) rfl ?hz7_24 hHeld ?rz7_24
          case hz7_24 => (intro w hSw; go_simp; all_goals with_reducible rfl)
          try simp only [Act.put, List.setIfInBounds_toArray, List.set_cons_zero, List.set_cons_succ]
          refine take_in (i := 25) (v := ?vz7_25) rfl (by kernel_rfl) (fun _ _ _ h => h) rfl ?hz7_25 hHeld ?rz7_25
          case hz7_25 => (intro w hSw; go_simp; all_goals with_reducible rfl)
          try simp only [Act.put, List.setIfInBounds_toArray, List.set_cons_zero, List.set_cons_succ]
          refine take_in (i := 26) (v := ?vz7_26) rfl (by kernel_rfl) (fun _ _ _ h => h) rfl ?hz7_26 hHeld ?rz7_26
          case hz7_26 => (intro w hSw; go_simp; all_goals with_reducible rfl)
          try simp only [Act.put, List.setIfInBounds_toArray, List.set_cons_zero, List.set_cons_succ]
          refine take_in (i := 27) (v := ?vz7_27) rfl (by kernel_rfl) (fun _ _ _ h => h) rfl ?hz7_27 hHeld ?rz7_27
          case hz7_27 => (intro w hSw; go_simp; all_goals with_reducible rfl)
          try simp only [Act.put, List.setIfInBounds_toArray, List.set_cons_zero, List.set_cons_succ]
          refine take_in (i := 28) (v := ?vz7_28) rfl (by kernel_rfl) (fun _ _ _ h => h) rfl ?hz7_28 hHeld ?rz7_28
          case hz7_28 => (intro w hSw; go_simp; all_goals with_reducible rfl)
          try simp only [Act.put, List.setIfInBounds_toArray, List.set_cons_zero, List.set_cons_succ]
          refine take_in (i := 29) (v := ?vz7_29) rfl (by kernel_rfl) (fun _ _ _ h => h) rfl ?hz7_29 hHeld ?rz7_29
          case hz7_29 => (intro w hSw; go_simp; all_goals with_reducible rfl)
          try simp only [Act.put, List.setIfInBounds_toArray, List.set_cons_zero, List.set_cons_succ]
          refine take_in (i := 30) (v := ?vz7_30) rfl (by kernel_rfl) (fun _ _ _ h => h) rfl ?hz7_30 hHeld ?rz7_30
          case hz7_30 => (intro w hSw; go_simp; all_goals with_reducible rfl)
          try simp only [Act.put, List.setIfInBounds_toArray, List.set_cons_zero, List.set_cons_succ]
          refine wpAnyH_done (by kernel_rfl) ?_ _
          go_wp2_with fail
          refine (alive_any _).mono ?_
          rintro e w' ⟨rfl, rfl⟩
          go_wp2_with fail
          go_ret
          exact ⟨rfl, HWD.out⟩
        have c5' : (a == 3) = false := by simpa using c5
        have HL := Lib.hid (HF.out (by rw [show allI 2 = 3 from by decide]; exact c5))
        clear c3 c4 c5 HF g1
        refine wp_region_held_drew (S := fun w' => w'.cell? ⟨w1.heap.size, 0, none⟩ = some (.int .i64 a) ∧ w'.cell? ⟨w1.heap.size, 1, none⟩ = some (.int .i64 b)) (by kernel_rfl) ⟨hc0, hc1⟩ (fun hHeld => ?_)
        refine take_in (i := 0) (v := ?vz8_0) rfl (by kernel_rfl) (fun _ _ _ h => h) rfl ?hz8_0 hHeld ?rz8_0
        case hz8_0 => (intro w hSw; go_simp; all_goals with_reducible rfl)
        try simp only [Act.put, List.setIfInBounds_toArray, List.set_cons_zero, List.set_cons_succ]
        refine take_in (i := 1) (v := ?vz8_1) rfl (by kernel_rfl) (fun _ _ _ h => h) rfl ?hz8_1 hHeld ?rz8_1
        case hz8_1 => (intro w hSw; go_simp; all_goals with_reducible rfl)
        try simp only [Act.put, List.setIfInBounds_toArray, List.set_cons_zero, List.set_cons_succ]
        refine wpAnyH_ready (rs := [2]) (by kernel_rfl) (by simp) ?_
        refine AllReadyH.cons rfl (fun K hK => ?_) AllReadyH.nil
        go_simp
        go_at_call 52
        refine (specQuoteOk_v HQ.out w.drew).mono ?_
        rintro e wq ⟨rfl, rfl⟩
        refine hK.out _ _ HD.out (fun hHeld => ?_)
        clear hK K
        try simp only [Act.put, List.setIfInBounds_toArray, List.set_cons_zero, List.set_cons_succ]
        refine take_in (i := 3) (v := ?vz8_3) rfl (by kernel_rfl) (fun _ _ _ h => h) rfl ?hz8_3 hHeld ?rz8_3
        case hz8_3 => (intro w hSw; go_simp; all_goals with_reducible rfl)
        try simp only [Act.put, List.setIfInBounds_toArray, List.set_cons_zero, List.set_cons_succ]
        refine take_in (i := 4) (v := ?vz8_4) rfl (by kernel_rfl) (fun _ _ _ h => h) rfl ?hz8_4 hHeld ?rz8_4
        case hz8_4 => (intro w hSw; go_simp; all_goals with_reducible rfl)
        try simp only [Act.put, List.setIfInBounds_toArray, List.set_cons_zero, List.set_cons_succ]
        refine take_in (i := 5) (v := ?vz8_5) rfl (by kernel_rfl) (fun _ _ _ h => h) rfl ?hz8_5 hHeld ?rz8_5
        case hz8_5 => (intro w hSw; go_simp; all_goals with_reducible rfl)
        try simp only [Act.put, List.setIfInBounds_toArray, List.set_cons_zero, List.set_cons_succ]
        refine take_in (i := 6) (v := ?vz8_6) rfl (by kernel_rfl) (fun _ _ _ h => h) rfl ?hz8_6 hHeld ?rz8_6
        case hz8_6 => (intro w hSw; go_simp; all_goals with_reducible rfl)
        try simp only [Act.put, List.setIfInBounds_toArray, List.set_cons_zero, List.set_cons_succ]
        refine take_in (i := 7) (v := ?vz8_7) rfl (by kernel_rfl) (fun _ _ _ h => h) rfl ?hz8_7 hHeld ?rz8_7
        case hz8_7 => (intro w hSw; go_simp; all_goals with_reducible rfl)
        try simp only [Act.put, List.setIfInBounds_toArray, List.set_cons_zero, List.set_cons_succ]
        refine take_in (i := 8) (v := ?vz8_8) rfl (by kernel_rfl) (fun _ _ _ h => h) rfl ?hz8_8 hHeld ?rz8_8
        case hz8_8 => (intro w hSw; go_simp; all_goals with_reducible rfl)
        try simp only [Act.put, List.setIfInBounds_toArray, List.set_cons_zero, List.set_cons_succ]
        refine take_in (i := 9) (v := ?vz8_9) rfl (by kernel_rfl) (fun _ _ _ h => h) rfl ?hz8_9 hHeld ?rz8_9
        case hz8_9 => (intro w hSw; go_simp; all_goals with_reducible rfl)
        try simp only [Act.put, List.setIfInBounds_toArray, List.set_cons_zero, List.set_cons_succ]
        refine take_in (i := 10) (v := ?vz8_10) rfl (by kernel_rfl) (fun _ _ _ h => h) rfl ?hz8_10 hHeld ?rz8_10
        case hz8_10 => (intro w hSw; go_simp; all_goals with_reducible rfl)
        try simp only [Act.put, List.setIfInBounds_toArray, List.set_cons_zero, List.set_cons_succ]
        refine take_in (i := 11) (v := ?vz8_11) rfl (by kernel_rfl) (fun _ _ _ h => h) rfl ?hz8_11 hHeld ?rz8_11
        case hz8_11 => (intro w hSw; go_simp; all_goals with_reducible rfl)
        try simp only [Act.put, List.setIfInBounds_toArray, List.set_cons_zero, List.set_cons_succ]
        refine take_in (i := 12) (v := ?vz8_12) rfl (by kernel_rfl) (fun _ _ _ h => h) rfl ?hz8_12 hHeld ?rz8_12
        case hz8_12 => (intro w hSw; go_simp; all_goals with_reducible rfl)
        try simp only [Act.put, List.setIfInBounds_toArray, List.set_cons_zero, List.set_cons_succ]
        refine take_in (i := 13) (v := ?vz8_13) rfl (by kernel_rfl) (fun _ _ _ h => h) rfl ?hz8_13 hHeld ?rz8_13
        case hz8_13 => (intro w hSw; go_simp; all_goals with_reducible rfl)
        try simp only [Act.put, List.setIfInBounds_toArray, List.set_cons_zero, List.set_cons_succ]
        refine take_in (i := 14) (v := ?vz8_14) rfl (by kernel_rfl) (fun _ _ _ h => h) rfl ?hz8_14 hHeld ?rz8_14
        case hz8_14 => (intro w hSw; go_simp; all_goals with_reducible rfl)
        try simp only [Act.put, List.setIfInBounds_toArray, List.set_cons_zero, List.set_cons_succ]
        refine take_in (i := 15) (v := ?vz8_15) rfl (by kernel_rfl) (fun _ _ _ h => h) rfl ?hz8_15 hHeld ?rz8_15
        case hz8_15 => (intro w hSw; go_simp; all_goals with_reducible rfl)
        try simp only [Act.put, List.setIfInBounds_toArray, List.set_cons_zero, List.set_cons_succ]
        refine take_in (i := 16) (v := ?vz8_16) rfl (by kernel_rfl) (fun _ _ _ h => h) rfl ?hz8_16 hHeld ?rz8_16
        case hz8_16 => (intro w hSw; go_simp; all_goals with_reducible rfl)
        try simp only [Act.put, List.setIfInBounds_toArray, List.set_cons_zero, List.set_cons_succ]
        refine take_in (i := 17) (v := ?vz8_17) rfl (by kernel_rfl) (fun _ _ _ h => h) rfl ?hz8_17 hHeld ?rz8_17
        case hz8_17 => (intro w hSw; go_simp; all_goals with_reducible rfl)
        try simp only [Act.put, List.setIfInBounds_toArray, List.set_cons_zero, List.set_cons_succ]
        refine take_in (i := 18) (v := ?vz8_18) rfl (by kernel_rfl) (fun _ _ _ h => h) rfl ?hz8_18 hHeld ?rz8_18
        case hz8_18 => (intro w hSw; go_simp; all_goals with_reducible rfl)
        try simp only [Act.put, List.setIfInBounds_toArray, List.set_cons_zero, List.set_cons_succ]
        refine take_in (i := 19) (v := ?vz8_19) rfl (by kernel_rfl) (fun _ _ _ h => h) rfl ?hz8_19 hHeld ?rz8_19
        case hz8_19 => (intro w hSw; go_simp; all_goals with_reducible rfl)
        try simp only [Act.put, List.setIfInBounds_toArray, List.set_cons_zero, List.set_cons_succ]
        refine take_in (i := 20) (v := ?vz8_20) rfl (by kernel_rfl) (fun _ _ _ h => h) rfl ?hz8_20 hHeld ?rz8_20
        case hz8_20 => (intro w hSw; go_simp; all_goals with_reducible rfl)
        try simp only [Act.put, List.setIfInBounds_toArray, List.set_cons_zero, List.set_cons_succ]
        refine take_in (i := 21) (v := ?vz8_21) rfl (by kernel_rfl) (fun _ _ _ h => h) rfl ?hz8_21 hHeld ?rz8_21
        case hz8_21 => (intro w hSw; go_simp; all_goals with_reducible rfl)
        try simp only [Act.put, List.setIfInBounds_toArray, List.set_cons_zero, List.set_cons_succ]
        refine take_in (i := 22) (v := ?vz8_22) rfl (by kernel_rfl) (fun _ _ _ h => h) rfl ?hz8_22 hHeld ?rz8_22
        case hz8_22 => (intro w hSw; go_simp; all_goals with_reducible rfl)
        try simp only [Act.put, List.setIfInBounds_toArray, List.set_cons_zero, List.set_cons_succ]
        refine take_in (i := 23) (v := ?vz8_23) rfl (by kernel_rfl) (fun _ _ _ h => h) rfl ?hz8_23 hHeld ?rz8_23
        case hz8_23 => (intro w hSw; go_simp; all_goals with_reducible rfl)
        try simp only [Act.put, List.setIfInBounds_toArray, List.set_cons_zero, List.set_cons_succ]
        refine take_in (i := 24) (v := ?vz8_24) rfl (by kernel_rfl) (fun _ _ _ h => h) rfl ?hz8_24 hHeld ?rz8_24
        case hz8_24 => (intro w hSw; go_simp; all_goals with_reducible rfl)
        try simp only [Act.put, List.setIfInBounds_toArray, List.set_cons_zero, List.set_cons_succ]
        refine take_in (i := 25) (v := ?vz8_25) rfl (by kernel_rfl) (fun _ _ _ h => h) rfl ?hz8_25 hHeld ?rz8_25
        case hz8_25 => (intro w hSw; go_simp; all_goals with_reducible rfl)
        try simp only [Act.put, List.setIfInBounds_toArray, List.set_cons_zero, List.set_cons_succ]
        refine take_in (i := 26) (v := ?vz8_26) rfl (by kernel_rfl) (fun _ _ _ h => h) rfl ?hz8_26 hHeld ?rz8_26
        case hz8_26 => (intro w hSw; go_simp; all_goals with_reducible rfl)
        try simp only [Act.put, List.setIfInBounds_toArray, List.set_cons_zero, List.set_cons_succ]
        refine take_in (i := 27) (v := ?vz8_27) rfl (by kernel_rfl) (fun _ _ _ h => h) rfl ?hz8_27 hHeld ?rz8_27
        case hz8_27 => (intro w hSw; go_simp; all_goals with_reducible rfl)
        try simp only [Act.put, List.setIfInBounds_toArray, List.set_cons_zero, List.set_cons_succ]
        refine take_in (i := 28) (v := ?vz8_28) rfl (by kernel_rfl) (fun _ _ _ h => h) rfl ?hz8_28 hHeld ?rz8_28
        case hz8_28 => (intro w hSw; go_simp; all_goals with_reducible rfl)
        try simp only [Act.put, List.setIfInBounds_toArray, List.set_cons_zero, List.set_cons_succ]
        refine take_in (i := 29) (v := ?vz8_29) rfl (by kernel_rfl) (fun _ _ _ h => h) rfl ?hz8_29 hHeld ?rz8_29
        case hz8_29 => (intro w hSw; go_simp; all_goals with_reducible rfl)
        try simp only [Act.put, List.setIfInBounds_toArray, List.set_cons_zero, List.set_cons_succ]
        refine take_in (i := 30) (v := ?vz8_30) rfl (by kernel_rfl) (fun _ _ _ h => h) rfl ?hz8_30 hHeld ?rz8_30
        case hz8_30 => (intro w hSw; go_simp; all_goals with_reducible rfl)
        try simp only [Act.put, List.setIfInBounds_toArray, List.set_cons_zero, List.set_cons_succ]
        refine wpAnyH_done (by kernel_rfl) ?_ _
        generalize w.drew.alloc (qBlk (a, b)) = u at HD HWD ⊢
        obtain ⟨e0, e1⟩ := HD.out
        clear hHeld hc0 hc1 HD HQ HC HW
        have hlt0 : w1.heap.size < u.heap.size := World.block_lt_of_cell? u _ e1
        by_cases hlt : s < b
        · have HL1 : Hid (lossOk 2 [(a, b), (a, s)] = true ∧ lossR 2 [(a, b), (a, s)] = [1, -1] ∧ sureI 2 [(a, b), (a, s)] = b - s) := Lib.hid (by
            obtain ⟨k1, k2, k3⟩ := HL.out
            refine ⟨k1, ?_, ?_⟩
            · rw [k2, pairS, if_pos hlt]
            · rw [k3, pairD, if_pos hlt]; omega)
          clear HL
          go_wp2_with fail
          refine (implLosingStakes_any _ _ _ _ (two_rd u a b s)).mono ?_
          rintro e x1 ⟨v, rfl, o1, b1⟩
          rw [HL1.out.1]
          rw [HL1.out.2.1] at o1
          obtain ⟨g, cap, rfl, hcap1, hcap2⟩ := o1.form (by simp)
          have HO1 := Lib.hid o1
          have HB1 := Lib.hid b1
          clear o1 b1
          go_wp2_with fail
          refine (implSureLossOf_any _ _ _ _ ((two_rd u a b s).keep (SameAt.of_below HB1.out))).mono ?_
          rintro e x2 ⟨rfl, b2⟩
          rw [HL1.out.1, HL1.out.2.2]
          have HO2 := Lib.hid (HO1.out.keep (SameAt.of_below b2))
          have hk0 : x2.cell? ⟨g, 0, none⟩ = some (.int .i64 (1)) := HO2.out.cellk rfl
          have hk1 : x2.cell? ⟨g, 1, none⟩ = some (.int .i64 (-1)) := HO2.out.cellk rfl
          have HBU : Hid (Below u.heap.size u x2) := Lib.hid (below_step ((Below.refl _ u).alloc (Nat.le_refl _) _) (below_step HB1.out b2 HB1.out.size) (by simp))
          have hf1 : x2.cell? ⟨w1.heap.size, 1, none⟩ = some (.int .i64 b) := (HBU.out.cell (p := ⟨w1.heap.size, 1, none⟩) hlt0).trans e1
          clear b2 e0 e1
          go_wp2_with fail
          go_ret
          exact ⟨ret_bool (by simp), below_step HWD.out HBU.out HWD.out.size⟩
        · have HL1 : Hid (lossOk 2 [(a, b), (a, s)] = true ∧ lossR 2 [(a, b), (a, s)] = [-1, 1] ∧ sureI 2 [(a, b), (a, s)] = s - b) := Lib.hid (by
            obtain ⟨k1, k2, k3⟩ := HL.out
            refine ⟨k1, ?_, ?_⟩
            · rw [k2, pairS, if_neg hlt]
            · rw [k3, pairD, if_neg hlt]; omega)
          clear HL
          go_wp2_with fail
          refine (implLosingStakes_any _ _ _ _ (two_rd u a b s)).mono ?_
          rintro e x1 ⟨v, rfl, o1, b1⟩
          rw [HL1.out.1]
          rw [HL1.out.2.1] at o1
          obtain ⟨g, cap, rfl, hcap1, hcap2⟩ := o1.form (by simp)
          have HO1 := Lib.hid o1
          have HB1 := Lib.hid b1
          clear o1 b1
          go_wp2_with fail
          refine (implSureLossOf_any _ _ _ _ ((two_rd u a b s).keep (SameAt.of_below HB1.out))).mono ?_
          rintro e x2 ⟨rfl, b2⟩
          rw [HL1.out.1, HL1.out.2.2]
          have HO2 := Lib.hid (HO1.out.keep (SameAt.of_below b2))
          have hk0 : x2.cell? ⟨g, 0, none⟩ = some (.int .i64 (-1)) := HO2.out.cellk rfl
          have hk1 : x2.cell? ⟨g, 1, none⟩ = some (.int .i64 (1)) := HO2.out.cellk rfl
          have HBU : Hid (Below u.heap.size u x2) := Lib.hid (below_step ((Below.refl _ u).alloc (Nat.le_refl _) _) (below_step HB1.out b2 HB1.out.size) (by simp))
          have hf1 : x2.cell? ⟨w1.heap.size, 1, none⟩ = some (.int .i64 b) := (HBU.out.cell (p := ⟨w1.heap.size, 1, none⟩) hlt0).trans e1
          clear b2 e0 e1
          go_wp2_with fail
          go_ret
          exact ⟨ret_bool (by simp), below_step HWD.out HBU.out HWD.out.size⟩
      · have hw1 : IntKind.i64.wrap 8 = 8 := by decide
        have hw2 : IntKind.i64.wrap 7 = 7 := by decide
        by_cases c5 : a = 7
        · have c5' : (a == 7) = true := by simpa using c5
          clear c5 c4 c3 HF
          refine wp_region_held_drew (S := fun w' => w'.cell? ⟨w1.heap.size, 0, none⟩ = some (.int .i64 a) ∧ w'.cell? ⟨w1.heap.size, 1, none⟩ = some (.int .i64 b)) (by kernel_rfl) ⟨hc0, hc1⟩ (fun hHeld => ?_)
          refine take_in (i := 0) (v := ?vz9_0) rfl (by kernel_rfl) (fun _ _ _ h => h) rfl ?hz9_0 hHeld ?rz9_0
          case hz9_0 => (intro w hSw; go_simp; all_goals with_reducible rfl)
          try simp only [Act.put, List.setIfInBounds_toArray, List.set_cons_zero, List.set_cons_succ]
          refine take_in (i := 1) (v := ?vz9_1) rfl (by kernel_rfl) (fun _ _ _ h => h) rfl ?hz9_1 hHeld ?rz9_1
          case hz9_1 => (intro w hSw; go_simp; all_goals with_reducible rfl)
          try simp only [Act.put, List.setIfInBounds_toArray, List.set_cons_zero, List.set_cons_succ]
          refine wpAnyH_ready (rs := [2]) (by kernel_rfl) (by simp) ?_
          refine AllReadyH.cons rfl (fun K hK => ?_) AllReadyH.nil
          go_simp
          go_at_call 52
          refine (specQuoteOk_v HQ.out w.drew).mono ?_
          rintro e wq ⟨rfl, rfl⟩
          refine hK.out _ _ HD.out (fun hHeld => ?_)
          clear hK K
          try simp only [Act.put, List.setIfInBounds_toArray, List.set_cons_zero, List.set_cons_succ]
          refine take_in (i := 3) (v := ?vz9_3) rfl (by kernel_rfl) (fun _ _ _ h => h) rfl ?hz9_3 hHeld ?rz9_3
          case hz9_3 => (intro w hSw; go_simp; all_goals with_reducible rfl)
          try simp only [Act.put, List.setIfInBounds_toArray, List.set_cons_zero, List.set_cons_succ]
          refine take_in (i := 4) (v := ?vz9_4) rfl (by kernel_rfl) (fun _ _ _ h => h) rfl ?hz9_4 hHeld ?rz9_4
          case hz9_4 => (intro w hSw; go_simp; all_goals with_reducible rfl)
          try simp only [Act.put, List.setIfInBounds_toArray, List.set_cons_zero, List.set_cons_succ]
          refine take_in (i := 5) (v := ?vz9_5) rfl (by kernel_rfl) (fun _ _ _ h => h) rfl ?hz9_5 hHeld ?rz9_5
          case hz9_5 => (intro w hSw; go_simp; all_goals with_reducible rfl)
          try simp only [Act.put, List.setIfInBounds_toArray, List.set_cons_zero, List.set_cons_succ]
          refine take_in (i := 6) (v := ?vz9_6) rfl (by kernel_rfl) (fun _ _ _ h => h) rfl ?hz9_6 hHeld ?rz9_6
          case hz9_6 => (intro w hSw; go_simp; all_goals with_reducible rfl)
          try simp only [Act.put, List.setIfInBounds_toArray, List.set_cons_zero, List.set_cons_succ]
          refine take_in (i := 7) (v := ?vz9_7) rfl (by kernel_rfl) (fun _ _ _ h => h) rfl ?hz9_7 hHeld ?rz9_7
          case hz9_7 => (intro w hSw; go_simp; all_goals with_reducible rfl)
          try simp only [Act.put, List.setIfInBounds_toArray, List.set_cons_zero, List.set_cons_succ]
          refine take_in (i := 8) (v := ?vz9_8) rfl (by kernel_rfl) (fun _ _ _ h => h) rfl ?hz9_8 hHeld ?rz9_8
          case hz9_8 => (intro w hSw; go_simp; all_goals with_reducible rfl)
          try simp only [Act.put, List.setIfInBounds_toArray, List.set_cons_zero, List.set_cons_succ]
          refine take_in (i := 9) (v := ?vz9_9) rfl (by kernel_rfl) (fun _ _ _ h => h) rfl ?hz9_9 hHeld ?rz9_9
          case hz9_9 => (intro w hSw; go_simp; all_goals with_reducible rfl)
          try simp only [Act.put, List.setIfInBounds_toArray, List.set_cons_zero, List.set_cons_succ]
          refine take_in (i := 10) (v := ?vz9_10) rfl (by kernel_rfl) (fun _ _ _ h => h) rfl ?hz9_10 hHeld ?rz9_10
          case hz9_10 => (intro w hSw; go_simp; all_goals with_reducible rfl)
          try simp only [Act.put, List.setIfInBounds_toArray, List.set_cons_zero, List.set_cons_succ]
          refine take_in (i := 11) (v := ?vz9_11) rfl (by kernel_rfl) (fun _ _ _ h => h) rfl ?hz9_11 hHeld ?rz9_11
          case hz9_11 => (intro w hSw; go_simp; all_goals with_reducible rfl)
          try simp only [Act.put, List.setIfInBounds_toArray, List.set_cons_zero, List.set_cons_succ]
          refine take_in (i := 12) (v := ?vz9_12) rfl (by kernel_rfl) (fun _ _ _ h => h) rfl ?hz9_12 hHeld ?rz9_12
          case hz9_12 => (intro w hSw; go_simp; all_goals with_reducible rfl)
          try simp only [Act.put, List.setIfInBounds_toArray, List.set_cons_zero, List.set_cons_succ]
          refine take_in (i := 13) (v := ?vz9_13) rfl (by kernel_rfl) (fun _ _ _ h => h) rfl ?hz9_13 hHeld ?rz9_13
          case hz9_13 => (intro w hSw; go_simp; all_goals with_reducible rfl)
          try simp only [Act.put, List.setIfInBounds_toArray, List.set_cons_zero, List.set_cons_succ]
          refine take_in (i := 14) (v := ?vz9_14) rfl (by kernel_rfl) (fun _ _ _ h => h) rfl ?hz9_14 hHeld ?rz9_14
          case hz9_14 => (intro w hSw; go_simp; all_goals with_reducible rfl)
          try simp only [Act.put, List.setIfInBounds_toArray, List.set_cons_zero, List.set_cons_succ]
          refine take_in (i := 15) (v := ?vz9_15) rfl (by kernel_rfl) (fun _ _ _ h => h) rfl ?hz9_15 hHeld ?rz9_15
          case hz9_15 => (intro w hSw; go_simp; all_goals with_reducible rfl)
          try simp only [Act.put, List.setIfInBounds_toArray, List.set_cons_zero, List.set_cons_succ]
          refine take_in (i := 16) (v := ?vz9_16) rfl (by kernel_rfl) (fun _ _ _ h => h) rfl ?hz9_16 hHeld ?rz9_16
          case hz9_16 => (intro w hSw; go_simp; all_goals with_reducible rfl)
          try simp only [Act.put, List.setIfInBounds_toArray, List.set_cons_zero, List.set_cons_succ]
          refine take_in (i := 17) (v := ?vz9_17) rfl (by kernel_rfl) (fun _ _ _ h => h) rfl ?hz9_17 hHeld ?rz9_17
          case hz9_17 => (intro w hSw; go_simp; all_goals with_reducible rfl)
          try simp only [Act.put, List.setIfInBounds_toArray, List.set_cons_zero, List.set_cons_succ]
          refine take_in (i := 18) (v := ?vz9_18) rfl (by kernel_rfl) (fun _ _ _ h => h) rfl ?hz9_18 hHeld ?rz9_18
          case hz9_18 => (intro w hSw; go_simp; all_goals with_reducible rfl)
          try simp only [Act.put, List.setIfInBounds_toArray, List.set_cons_zero, List.set_cons_succ]
          refine take_in (i := 19) (v := ?vz9_19) rfl (by kernel_rfl) (fun _ _ _ h => h) rfl ?hz9_19 hHeld ?rz9_19
          case hz9_19 => (intro w hSw; go_simp; all_goals with_reducible rfl)
          try simp only [Act.put, List.setIfInBounds_toArray, List.set_cons_zero, List.set_cons_succ]
          refine take_in (i := 20) (v := ?vz9_20) rfl (by kernel_rfl) (fun _ _ _ h => h) rfl ?hz9_20 hHeld ?rz9_20
          case hz9_20 => (intro w hSw; go_simp; all_goals with_reducible rfl)
          try simp only [Act.put, List.setIfInBounds_toArray, List.set_cons_zero, List.set_cons_succ]
          refine take_in (i := 21) (v := ?vz9_21) rfl (by kernel_rfl) (fun _ _ _ h => h) rfl ?hz9_21 hHeld ?rz9_21
          case hz9_21 => (intro w hSw; go_simp; all_goals with_reducible rfl)
          try simp only [Act.put, List.setIfInBounds_toArray, List.set_cons_zero, List.set_cons_succ]
          refine take_in (i := 22) (v := ?vz9_22) rfl (by kernel_rfl) (fun _ _ _ h => h) rfl ?hz9_22 hHeld ?rz9_22
          case hz9_22 => (intro w hSw; go_simp; all_goals with_reducible rfl)
          try simp only [Act.put, List.setIfInBounds_toArray, List.set_cons_zero, List.set_cons_succ]
          refine take_in (i := 23) (v := ?vz9_23) rfl (by kernel_rfl) (fun _ _ _ h => h) rfl ?hz9_23 hHeld ?rz9_23
          case hz9_23 => (intro w hSw; go_simp; all_goals with_reducible rfl)
          try simp only [Act.put, List.setIfInBounds_toArray, List.set_cons_zero, List.set_cons_succ]
          refine take_in (i := 24) (v := ?vz9_24) rfl (by kernel_rfl) (fun _ _ _ h => h) rfl ?hz9_24 hHeld ?rz9_24
          case hz9_24 => (intro w hSw; go_simp; all_goals with_reducible rfl)
          try simp only [Act.put, List.setIfInBounds_toArray, List.set_cons_zero, List.set_cons_succ]
          refine take_in (i := 25) (v := ?vz9_25) rfl (by kernel_rfl) (fun _ _ _ h => h) rfl ?hz9_25 hHeld ?rz9_25
          case hz9_25 => (intro w hSw; go_simp; all_goals with_reducible rfl)
          try simp only [Act.put, List.setIfInBounds_toArray, List.set_cons_zero, List.set_cons_succ]
          refine take_in (i := 26) (v := ?vz9_26) rfl (by kernel_rfl) (fun _ _ _ h => h) rfl ?hz9_26 hHeld ?rz9_26
          case hz9_26 => (intro w hSw; go_simp; all_goals with_reducible rfl)
          try simp only [Act.put, List.setIfInBounds_toArray, List.set_cons_zero, List.set_cons_succ]
          refine take_in (i := 27) (v := ?vz9_27) rfl (by kernel_rfl) (fun _ _ _ h => h) rfl ?hz9_27 hHeld ?rz9_27
          case hz9_27 => (intro w hSw; go_simp; all_goals with_reducible rfl)
          try simp only [Act.put, List.setIfInBounds_toArray, List.set_cons_zero, List.set_cons_succ]
          refine take_in (i := 28) (v := ?vz9_28) rfl (by kernel_rfl) (fun _ _ _ h => h) rfl ?hz9_28 hHeld ?rz9_28
          case hz9_28 => (intro w hSw; go_simp; all_goals with_reducible rfl)
          try simp only [Act.put, List.setIfInBounds_toArray, List.set_cons_zero, List.set_cons_succ]
          refine take_in (i := 29) (v := ?vz9_29) rfl (by kernel_rfl) (fun _ _ _ h => h) rfl ?hz9_29 hHeld ?rz9_29
          case hz9_29 => (intro w hSw; go_simp; all_goals with_reducible rfl)
          try simp only [Act.put, List.setIfInBounds_toArray, List.set_cons_zero, List.set_cons_succ]
          refine take_in (i := 30) (v := ?vz9_30) rfl (by kernel_rfl) (fun _ _ _ h => h) rfl ?hz9_30 hHeld ?rz9_30
          case hz9_30 => (intro w hSw; go_simp; all_goals with_reducible rfl)
          try simp only [Act.put, List.setIfInBounds_toArray, List.set_cons_zero, List.set_cons_succ]
          refine wpAnyH_done (by kernel_rfl) ?_ _
          go_wp2_with fail
          refine (alive_any _).mono ?_
          rintro e w' ⟨rfl, rfl⟩
          go_wp2_with fail
          go_ret
          exact ⟨rfl, HWD.out⟩
        have c5' : (a == 7) = false := by simpa using c5
        have HL := Lib.hid (HF.out (by rw [show allI 3 = 7 from by decide]; exact c5))
        clear c3 c4 c5 HF g1
        refine wp_region_held_drew (S := fun w' => w'.cell? ⟨w1.heap.size, 0, none⟩ = some (.int .i64 a) ∧ w'.cell? ⟨w1.heap.size, 1, none⟩ = some (.int .i64 b)) (by kernel_rfl) ⟨hc0, hc1⟩ (fun hHeld => ?_)
        refine take_in (i := 0) (v := ?vz10_0) rfl (by kernel_rfl) (fun _ _ _ h => h) rfl ?hz10_0 hHeld ?rz10_0
        case hz10_0 => (intro w hSw; go_simp; all_goals with_reducible rfl)
        try simp only [Act.put, List.setIfInBounds_toArray, List.set_cons_zero, List.set_cons_succ]
        refine take_in (i := 1) (v := ?vz10_1) rfl (by kernel_rfl) (fun _ _ _ h => h) rfl ?hz10_1 hHeld ?rz10_1
        case hz10_1 => (intro w hSw; go_simp; all_goals with_reducible rfl)
        try simp only [Act.put, List.setIfInBounds_toArray, List.set_cons_zero, List.set_cons_succ]
        refine wpAnyH_ready (rs := [2]) (by kernel_rfl) (by simp) ?_
        refine AllReadyH.cons rfl (fun K hK => ?_) AllReadyH.nil
        go_simp
        go_at_call 52
        refine (specQuoteOk_v HQ.out w.drew).mono ?_
        rintro e wq ⟨rfl, rfl⟩
        refine hK.out _ _ HD.out (fun hHeld => ?_)
        clear hK K
        try simp only [Act.put, List.setIfInBounds_toArray, List.set_cons_zero, List.set_cons_succ]
        refine take_in (i := 3) (v := ?vz10_3) rfl (by kernel_rfl) (fun _ _ _ h => h) rfl ?hz10_3 hHeld ?rz10_3
        case hz10_3 => (intro w hSw; go_simp; all_goals with_reducible rfl)
        try simp only [Act.put, List.setIfInBounds_toArray, List.set_cons_zero, List.set_cons_succ]
        refine take_in (i := 4) (v := ?vz10_4) rfl (by kernel_rfl) (fun _ _ _ h => h) rfl ?hz10_4 hHeld ?rz10_4
        case hz10_4 => (intro w hSw; go_simp; all_goals with_reducible rfl)
        try simp only [Act.put, List.setIfInBounds_toArray, List.set_cons_zero, List.set_cons_succ]
        refine take_in (i := 5) (v := ?vz10_5) rfl (by kernel_rfl) (fun _ _ _ h => h) rfl ?hz10_5 hHeld ?rz10_5
        case hz10_5 => (intro w hSw; go_simp; all_goals with_reducible rfl)
        try simp only [Act.put, List.setIfInBounds_toArray, List.set_cons_zero, List.set_cons_succ]
        refine take_in (i := 6) (v := ?vz10_6) rfl (by kernel_rfl) (fun _ _ _ h => h) rfl ?hz10_6 hHeld ?rz10_6
        case hz10_6 => (intro w hSw; go_simp; all_goals with_reducible rfl)
        try simp only [Act.put, List.setIfInBounds_toArray, List.set_cons_zero, List.set_cons_succ]
        refine take_in (i := 7) (v := ?vz10_7) rfl (by kernel_rfl) (fun _ _ _ h => h) rfl ?hz10_7 hHeld ?rz10_7
        case hz10_7 => (intro w hSw; go_simp; all_goals with_reducible rfl)
        try simp only [Act.put, List.setIfInBounds_toArray, List.set_cons_zero, List.set_cons_succ]
        refine take_in (i := 8) (v := ?vz10_8) rfl (by kernel_rfl) (fun _ _ _ h => h) rfl ?hz10_8 hHeld ?rz10_8
        case hz10_8 => (intro w hSw; go_simp; all_goals with_reducible rfl)
        try simp only [Act.put, List.setIfInBounds_toArray, List.set_cons_zero, List.set_cons_succ]
        refine take_in (i := 9) (v := ?vz10_9) rfl (by kernel_rfl) (fun _ _ _ h => h) rfl ?hz10_9 hHeld ?rz10_9
        case hz10_9 => (intro w hSw; go_simp; all_goals with_reducible rfl)
        try simp only [Act.put, List.setIfInBounds_toArray, List.set_cons_zero, List.set_cons_succ]
        refine take_in (i := 10) (v := ?vz10_10) rfl (by kernel_rfl) (fun _ _ _ h => h) rfl ?hz10_10 hHeld ?rz10_10
        case hz10_10 => (intro w hSw; go_simp; all_goals with_reducible rfl)
        try simp only [Act.put, List.setIfInBounds_toArray, List.set_cons_zero, List.set_cons_succ]
        refine take_in (i := 11) (v := ?vz10_11) rfl (by kernel_rfl) (fun _ _ _ h => h) rfl ?hz10_11 hHeld ?rz10_11
        case hz10_11 => (intro w hSw; go_simp; all_goals with_reducible rfl)
        try simp only [Act.put, List.setIfInBounds_toArray, List.set_cons_zero, List.set_cons_succ]
        refine take_in (i := 12) (v := ?vz10_12) rfl (by kernel_rfl) (fun _ _ _ h => h) rfl ?hz10_12 hHeld ?rz10_12
        case hz10_12 => (intro w hSw; go_simp; all_goals with_reducible rfl)
        try simp only [Act.put, List.setIfInBounds_toArray, List.set_cons_zero, List.set_cons_succ]
        refine take_in (i := 13) (v := ?vz10_13) rfl (by kernel_rfl) (fun _ _ _ h => h) rfl ?hz10_13 hHeld ?rz10_13
        case hz10_13 => (intro w hSw; go_simp; all_goals with_reducible rfl)
        try simp only [Act.put, List.setIfInBounds_toArray, List.set_cons_zero, List.set_cons_succ]
        refine take_in (i := 14) (v := ?vz10_14) rfl (by kernel_rfl) (fun _ _ _ h => h) rfl ?hz10_14 hHeld ?rz10_14
        case hz10_14 => (intro w hSw; go_simp; all_goals with_reducible rfl)
        try simp only [Act.put, List.setIfInBounds_toArray, List.set_cons_zero, List.set_cons_succ]
        refine take_in (i := 15) (v := ?vz10_15) rfl (by kernel_rfl) (fun _ _ _ h => h) rfl ?hz10_15 hHeld ?rz10_15
        case hz10_15 => (intro w hSw; go_simp; all_goals with_reducible rfl)
        try simp only [Act.put, List.setIfInBounds_toArray, List.set_cons_zero, List.set_cons_succ]
        refine take_in (i := 16) (v := ?vz10_16) rfl (by kernel_rfl) (fun _ _ _ h => h) rfl ?hz10_16 hHeld ?rz10_16
        case hz10_16 => (intro w hSw; go_simp; all_goals with_reducible rfl)
        try simp only [Act.put, List.setIfInBounds_toArray, List.set_cons_zero, List.set_cons_succ]
        refine take_in (i := 17) (v := ?vz10_17) rfl (by kernel_rfl) (fun _ _ _ h => h) rfl ?hz10_17 hHeld ?rz10_17
        case hz10_17 => (intro w hSw; go_simp; all_goals with_reducible rfl)
        try simp only [Act.put, List.setIfInBounds_toArray, List.set_cons_zero, List.set_cons_succ]
        refine take_in (i := 18) (v := ?vz10_18) rfl (by kernel_rfl) (fun _ _ _ h => h) rfl ?hz10_18 hHeld ?rz10_18
        case hz10_18 => (intro w hSw; go_simp; all_goals with_reducible rfl)
        try simp only [Act.put, List.setIfInBounds_toArray, List.set_cons_zero, List.set_cons_succ]
        refine take_in (i := 19) (v := ?vz10_19) rfl (by kernel_rfl) (fun _ _ _ h => h) rfl ?hz10_19 hHeld ?rz10_19
        case hz10_19 => (intro w hSw; go_simp; all_goals with_reducible rfl)
        try simp only [Act.put, List.setIfInBounds_toArray, List.set_cons_zero, List.set_cons_succ]
        refine take_in (i := 20) (v := ?vz10_20) rfl (by kernel_rfl) (fun _ _ _ h => h) rfl ?hz10_20 hHeld ?rz10_20
        case hz10_20 => (intro w hSw; go_simp; all_goals with_reducible rfl)
        try simp only [Act.put, List.setIfInBounds_toArray, List.set_cons_zero, List.set_cons_succ]
        refine take_in (i := 21) (v := ?vz10_21) rfl (by kernel_rfl) (fun _ _ _ h => h) rfl ?hz10_21 hHeld ?rz10_21
        case hz10_21 => (intro w hSw; go_simp; all_goals with_reducible rfl)
        try simp only [Act.put, List.setIfInBounds_toArray, List.set_cons_zero, List.set_cons_succ]
        refine take_in (i := 22) (v := ?vz10_22) rfl (by kernel_rfl) (fun _ _ _ h => h) rfl ?hz10_22 hHeld ?rz10_22
        case hz10_22 => (intro w hSw; go_simp; all_goals with_reducible rfl)
        try simp only [Act.put, List.setIfInBounds_toArray, List.set_cons_zero, List.set_cons_succ]
        refine take_in (i := 23) (v := ?vz10_23) rfl (by kernel_rfl) (fun _ _ _ h => h) rfl ?hz10_23 hHeld ?rz10_23
        case hz10_23 => (intro w hSw; go_simp; all_goals with_reducible rfl)
        try simp only [Act.put, List.setIfInBounds_toArray, List.set_cons_zero, List.set_cons_succ]
        refine take_in (i := 24) (v := ?vz10_24) rfl (by kernel_rfl) (fun _ _ _ h => h) rfl ?hz10_24 hHeld ?rz10_24
        case hz10_24 => (intro w hSw; go_simp; all_goals with_reducible rfl)
        try simp only [Act.put, List.setIfInBounds_toArray, List.set_cons_zero, List.set_cons_succ]
        refine take_in (i := 25) (v := ?vz10_25) rfl (by kernel_rfl) (fun _ _ _ h => h) rfl ?hz10_25 hHeld ?rz10_25
        case hz10_25 => (intro w hSw; go_simp; all_goals with_reducible rfl)
        try simp only [Act.put, List.setIfInBounds_toArray, List.set_cons_zero, List.set_cons_succ]
        refine take_in (i := 26) (v := ?vz10_26) rfl (by kernel_rfl) (fun _ _ _ h => h) rfl ?hz10_26 hHeld ?rz10_26
        case hz10_26 => (intro w hSw; go_simp; all_goals with_reducible rfl)
        try simp only [Act.put, List.setIfInBounds_toArray, List.set_cons_zero, List.set_cons_succ]
        refine take_in (i := 27) (v := ?vz10_27) rfl (by kernel_rfl) (fun _ _ _ h => h) rfl ?hz10_27 hHeld ?rz10_27
        case hz10_27 => (intro w hSw; go_simp; all_goals with_reducible rfl)
        try simp only [Act.put, List.setIfInBounds_toArray, List.set_cons_zero, List.set_cons_succ]
        refine take_in (i := 28) (v := ?vz10_28) rfl (by kernel_rfl) (fun _ _ _ h => h) rfl ?hz10_28 hHeld ?rz10_28
        case hz10_28 => (intro w hSw; go_simp; all_goals with_reducible rfl)
        try simp only [Act.put, List.setIfInBounds_toArray, List.set_cons_zero, List.set_cons_succ]
        refine take_in (i := 29) (v := ?vz10_29) rfl (by kernel_rfl) (fun _ _ _ h => h) rfl ?hz10_29 hHeld ?rz10_29
        case hz10_29 => (intro w hSw; go_simp; all_goals with_reducible rfl)
        try simp only [Act.put, List.setIfInBounds_toArray, List.set_cons_zero, List.set_cons_succ]
        refine take_in (i := 30) (v := ?vz10_30) rfl (by kernel_rfl) (fun _ _ _ h => h) rfl ?hz10_30 hHeld ?rz10_30
        case hz10_30 => (intro w hSw; go_simp; all_goals with_reducible rfl)
        try simp only [Act.put, List.setIfInBounds_toArray, List.set_cons_zero, List.set_cons_succ]
        refine wpAnyH_done (by kernel_rfl) ?_ _
        generalize w.drew.alloc (qBlk (a, b)) = u at HD HWD ⊢
        obtain ⟨e0, e1⟩ := HD.out
        clear hHeld hc0 hc1 HD HQ HC HW
        have hlt0 : w1.heap.size < u.heap.size := World.block_lt_of_cell? u _ e1
        by_cases hlt : s < b
        · have HL1 : Hid (lossOk 3 [(a, b), (a, s)] = true ∧ lossR 3 [(a, b), (a, s)] = [1, -1] ∧ sureI 3 [(a, b), (a, s)] = b - s) := Lib.hid (by
            obtain ⟨k1, k2, k3⟩ := HL.out
            refine ⟨k1, ?_, ?_⟩
            · rw [k2, pairS, if_pos hlt]
            · rw [k3, pairD, if_pos hlt]; omega)
          clear HL
          go_wp2_with fail
          refine (implLosingStakes_any _ _ _ _ (two_rd u a b s)).mono ?_
          rintro e x1 ⟨v, rfl, o1, b1⟩
          rw [HL1.out.1]
          rw [HL1.out.2.1] at o1
          obtain ⟨g, cap, rfl, hcap1, hcap2⟩ := o1.form (by simp)
          have HO1 := Lib.hid o1
          have HB1 := Lib.hid b1
          clear o1 b1
          go_wp2_with fail
          refine (implSureLossOf_any _ _ _ _ ((two_rd u a b s).keep (SameAt.of_below HB1.out))).mono ?_
          rintro e x2 ⟨rfl, b2⟩
          rw [HL1.out.1, HL1.out.2.2]
          have HO2 := Lib.hid (HO1.out.keep (SameAt.of_below b2))
          have hk0 : x2.cell? ⟨g, 0, none⟩ = some (.int .i64 (1)) := HO2.out.cellk rfl
          have hk1 : x2.cell? ⟨g, 1, none⟩ = some (.int .i64 (-1)) := HO2.out.cellk rfl
          have HBU : Hid (Below u.heap.size u x2) := Lib.hid (below_step ((Below.refl _ u).alloc (Nat.le_refl _) _) (below_step HB1.out b2 HB1.out.size) (by simp))
          have hf1 : x2.cell? ⟨w1.heap.size, 1, none⟩ = some (.int .i64 b) := (HBU.out.cell (p := ⟨w1.heap.size, 1, none⟩) hlt0).trans e1
          clear b2 e0 e1
          go_wp2_with fail
          go_ret
          exact ⟨ret_bool (by simp), below_step HWD.out HBU.out HWD.out.size⟩
        · have HL1 : Hid (lossOk 3 [(a, b), (a, s)] = true ∧ lossR 3 [(a, b), (a, s)] = [-1, 1] ∧ sureI 3 [(a, b), (a, s)] = s - b) := Lib.hid (by
            obtain ⟨k1, k2, k3⟩ := HL.out
            refine ⟨k1, ?_, ?_⟩
            · rw [k2, pairS, if_neg hlt]
            · rw [k3, pairD, if_neg hlt]; omega)
          clear HL
          go_wp2_with fail
          refine (implLosingStakes_any _ _ _ _ (two_rd u a b s)).mono ?_
          rintro e x1 ⟨v, rfl, o1, b1⟩
          rw [HL1.out.1]
          rw [HL1.out.2.1] at o1
          obtain ⟨g, cap, rfl, hcap1, hcap2⟩ := o1.form (by simp)
          have HO1 := Lib.hid o1
          have HB1 := Lib.hid b1
          clear o1 b1
          go_wp2_with fail
          refine (implSureLossOf_any _ _ _ _ ((two_rd u a b s).keep (SameAt.of_below HB1.out))).mono ?_
          rintro e x2 ⟨rfl, b2⟩
          rw [HL1.out.1, HL1.out.2.2]
          have HO2 := Lib.hid (HO1.out.keep (SameAt.of_below b2))
          have hk0 : x2.cell? ⟨g, 0, none⟩ = some (.int .i64 (-1)) := HO2.out.cellk rfl
          have hk1 : x2.cell? ⟨g, 1, none⟩ = some (.int .i64 (1)) := HO2.out.cellk rfl
          have HBU : Hid (Below u.heap.size u x2) := Lib.hid (below_step ((Below.refl _ u).alloc (Nat.le_refl _) _) (below_step HB1.out b2 HB1.out.size) (by simp))
          have hf1 : x2.cell? ⟨w1.heap.size, 1, none⟩ = some (.int .i64 b) := (HBU.out.cell (p := ⟨w1.heap.size, 1, none⟩) hlt0).trans e1
          clear b2 e0 e1
          go_wp2_with fail
          go_ret
          exact ⟨ret_bool (by simp), below_step HWD.out HBU.out HWD.out.size⟩
      · have hw1 : IntKind.i64.wrap 16 = 16 := by decide
        have hw2 : IntKind.i64.wrap 15 = 15 := by decide
        by_cases c5 : a = 15
        · have c5' : (a == 15) = true := by simpa using c5
          clear c5 c4 c3 HF
          refine wp_region_held_drew (S := fun w' => w'.cell? ⟨w1.heap.size, 0, none⟩ = some (.int .i64 a) ∧ w'.cell? ⟨w1.heap.size, 1, none⟩ = some (.int .i64 b)) (by kernel_rfl) ⟨hc0, hc1⟩ (fun hHeld => ?_)
          refine take_in (i := 0) (v := ?vz11_0) rfl (by kernel_rfl) (fun _ _ _ h => h) rfl ?hz11_0 hHeld ?rz11_0
          case hz11_0 => (intro w hSw; go_simp; all_goals with_reducible rfl)
          try simp only [Act.put, List.setIfInBounds_toArray, List.set_cons_zero, List.set_cons_succ]
          refine take_in (i := 1) (v := ?vz11_1) rfl (by kernel_rfl) (fun _ _ _ h => h) rfl ?hz11_1 hHeld ?rz11_1
          case hz11_1 => (intro w hSw; go_simp; all_goals with_reducible rfl)
          try simp only [Act.put, List.setIfInBounds_toArray, List.set_cons_zero, List.set_cons_succ]
          refine wpAnyH_ready (rs := [2]) (by kernel_rfl) (by simp) ?_
          refine AllReadyH.cons rfl (fun K hK => ?_) AllReadyH.nil
          go_simp
          go_at_call 52
          refine (specQuoteOk_v HQ.out w.drew).mono ?_
          rintro e wq ⟨rfl, rfl⟩
          refine hK.out _ _ HD.out (fun hHeld => ?_)
          clear hK K
          try simp only [Act.put, List.setIfInBounds_toArray, List.set_cons_zero, List.set_cons_succ]
          refine take_in (i := 3) (v := ?vz11_3) rfl (by kernel_rfl) (fun _ _ _ h => h) rfl ?hz11_3 hHeld ?rz11_3
          case hz11_3 => (intro w hSw; go_simp; all_goals with_reducible rfl)
          try simp only [Act.put, List.setIfInBounds_toArray, List.set_cons_zero, List.set_cons_succ]
          refine take_in (i := 4) (v := ?vz11_4) rfl (by kernel_rfl) (fun _ _ _ h => h) rfl ?hz11_4 hHeld ?rz11_4
          case hz11_4 => (intro w hSw; go_simp; all_goals with_reducible rfl)
          try simp only [Act.put, List.setIfInBounds_toArray, List.set_cons_zero, List.set_cons_succ]
          refine take_in (i := 5) (v := ?vz11_5) rfl (by kernel_rfl) (fun _ _ _ h => h) rfl ?hz11_5 hHeld ?rz11_5
          case hz11_5 => (intro w hSw; go_simp; all_goals with_reducible rfl)
          try simp only [Act.put, List.setIfInBounds_toArray, List.set_cons_zero, List.set_cons_succ]
          refine take_in (i := 6) (v := ?vz11_6) rfl (by kernel_rfl) (fun _ _ _ h => h) rfl ?hz11_6 hHeld ?rz11_6
          case hz11_6 => (intro w hSw; go_simp; all_goals with_reducible rfl)
          try simp only [Act.put, List.setIfInBounds_toArray, List.set_cons_zero, List.set_cons_succ]
          refine take_in (i := 7) (v := ?vz11_7) rfl (by kernel_rfl) (fun _ _ _ h => h) rfl ?hz11_7 hHeld ?rz11_7
          case hz11_7 => (intro w hSw; go_simp; all_goals with_reducible rfl)
          try simp only [Act.put, List.setIfInBounds_toArray, List.set_cons_zero, List.set_cons_succ]
          refine take_in (i := 8) (v := ?vz11_8) rfl (by kernel_rfl) (fun _ _ _ h => h) rfl ?hz11_8 hHeld ?rz11_8
          case hz11_8 => (intro w hSw; go_simp; all_goals with_reducible rfl)
          try simp only [Act.put, List.setIfInBounds_toArray, List.set_cons_zero, List.set_cons_succ]
          refine take_in (i := 9) (v := ?vz11_9) rfl (by kernel_rfl) (fun _ _ _ h => h) rfl ?hz11_9 hHeld ?rz11_9
          case hz11_9 => (intro w hSw; go_simp; all_goals with_reducible rfl)
          try simp only [Act.put, List.setIfInBounds_toArray, List.set_cons_zero, List.set_cons_succ]
          refine take_in (i := 10) (v := ?vz11_10) rfl (by kernel_rfl) (fun _ _ _ h => h) rfl ?hz11_10 hHeld ?rz11_10
          case hz11_10 => (intro w hSw; go_simp; all_goals with_reducible rfl)
          try simp only [Act.put, List.setIfInBounds_toArray, List.set_cons_zero, List.set_cons_succ]
          refine take_in (i := 11) (v := ?vz11_11) rfl (by kernel_rfl) (fun _ _ _ h => h) rfl ?hz11_11 hHeld ?rz11_11
          case hz11_11 => (intro w hSw; go_simp; all_goals with_reducible rfl)
          try simp only [Act.put, List.setIfInBounds_toArray, List.set_cons_zero, List.set_cons_succ]
          refine take_in (i := 12) (v := ?vz11_12) rfl (by kernel_rfl) (fun _ _ _ h => h) rfl ?hz11_12 hHeld ?rz11_12
          case hz11_12 => (intro w hSw; go_simp; all_goals with_reducible rfl)
          try simp only [Act.put, List.setIfInBounds_toArray, List.set_cons_zero, List.set_cons_succ]
          refine take_in (i := 13) (v := ?vz11_13) rfl (by kernel_rfl) (fun _ _ _ h => h) rfl ?hz11_13 hHeld ?rz11_13
          case hz11_13 => (intro w hSw; go_simp; all_goals with_reducible rfl)
          try simp only [Act.put, List.setIfInBounds_toArray, List.set_cons_zero, List.set_cons_succ]
          refine take_in (i := 14) (v := ?vz11_14) rfl (by kernel_rfl) (fun _ _ _ h => h) rfl ?hz11_14 hHeld ?rz11_14
          case hz11_14 => (intro w hSw; go_simp; all_goals with_reducible rfl)
          try simp only [Act.put, List.setIfInBounds_toArray, List.set_cons_zero, List.set_cons_succ]
          refine take_in (i := 15) (v := ?vz11_15) rfl (by kernel_rfl) (fun _ _ _ h => h) rfl ?hz11_15 hHeld ?rz11_15
          case hz11_15 => (intro w hSw; go_simp; all_goals with_reducible rfl)
          try simp only [Act.put, List.setIfInBounds_toArray, List.set_cons_zero, List.set_cons_succ]
          refine take_in (i := 16) (v := ?vz11_16) rfl (by kernel_rfl) (fun _ _ _ h => h) rfl ?hz11_16 hHeld ?rz11_16
          case hz11_16 => (intro w hSw; go_simp; all_goals with_reducible rfl)
          try simp only [Act.put, List.setIfInBounds_toArray, List.set_cons_zero, List.set_cons_succ]
          refine take_in (i := 17) (v := ?vz11_17) rfl (by kernel_rfl) (fun _ _ _ h => h) rfl ?hz11_17 hHeld ?rz11_17
          case hz11_17 => (intro w hSw; go_simp; all_goals with_reducible rfl)
          try simp only [Act.put, List.setIfInBounds_toArray, List.set_cons_zero, List.set_cons_succ]
          refine take_in (i := 18) (v := ?vz11_18) rfl (by kernel_rfl) (fun _ _ _ h => h) rfl ?hz11_18 hHeld ?rz11_18
          case hz11_18 => (intro w hSw; go_simp; all_goals with_reducible rfl)
          try simp only [Act.put, List.setIfInBounds_toArray, List.set_cons_zero, List.set_cons_succ]
          refine take_in (i := 19) (v := ?vz11_19) rfl (by kernel_rfl) (fun _ _ _ h => h) rfl ?hz11_19 hHeld ?rz11_19
          case hz11_19 => (intro w hSw; go_simp; all_goals with_reducible rfl)
          try simp only [Act.put, List.setIfInBounds_toArray, List.set_cons_zero, List.set_cons_succ]
          refine take_in (i := 20) (v := ?vz11_20) rfl (by kernel_rfl) (fun _ _ _ h => h) rfl ?hz11_20 hHeld ?rz11_20
          case hz11_20 => (intro w hSw; go_simp; all_goals with_reducible rfl)
          try simp only [Act.put, List.setIfInBounds_toArray, List.set_cons_zero, List.set_cons_succ]
          refine take_in (i := 21) (v := ?vz11_21) rfl (by kernel_rfl) (fun _ _ _ h => h) rfl ?hz11_21 hHeld ?rz11_21
          case hz11_21 => (intro w hSw; go_simp; all_goals with_reducible rfl)
          try simp only [Act.put, List.setIfInBounds_toArray, List.set_cons_zero, List.set_cons_succ]
          refine take_in (i := 22) (v := ?vz11_22) rfl (by kernel_rfl) (fun _ _ _ h => h) rfl ?hz11_22 hHeld ?rz11_22
          case hz11_22 => (intro w hSw; go_simp; all_goals with_reducible rfl)
          try simp only [Act.put, List.setIfInBounds_toArray, List.set_cons_zero, List.set_cons_succ]
          refine take_in (i := 23) (v := ?vz11_23) rfl (by kernel_rfl) (fun _ _ _ h => h) rfl ?hz11_23 hHeld ?rz11_23
          case hz11_23 => (intro w hSw; go_simp; all_goals with_reducible rfl)
          try simp only [Act.put, List.setIfInBounds_toArray, List.set_cons_zero, List.set_cons_succ]
          refine take_in (i := 24) (v := ?vz11_24) rfl (by kernel_rfl) (fun _ _ _ h => h) rfl ?hz11_24 hHeld ?rz11_24
          case hz11_24 => (intro w hSw; go_simp; all_goals with_reducible rfl)
          try simp only [Act.put, List.setIfInBounds_toArray, List.set_cons_zero, List.set_cons_succ]
          refine take_in (i := 25) (v := ?vz11_25) rfl (by kernel_rfl) (fun _ _ _ h => h) rfl ?hz11_25 hHeld ?rz11_25
          case hz11_25 => (intro w hSw; go_simp; all_goals with_reducible rfl)
          try simp only [Act.put, List.setIfInBounds_toArray, List.set_cons_zero, List.set_cons_succ]
          refine take_in (i := 26) (v := ?vz11_26) rfl (by kernel_rfl) (fun _ _ _ h => h) rfl ?hz11_26 hHeld ?rz11_26
          case hz11_26 => (intro w hSw; go_simp; all_goals with_reducible rfl)
          try simp only [Act.put, List.setIfInBounds_toArray, List.set_cons_zero, List.set_cons_succ]
          refine take_in (i := 27) (v := ?vz11_27) rfl (by kernel_rfl) (fun _ _ _ h => h) rfl ?hz11_27 hHeld ?rz11_27
          case hz11_27 => (intro w hSw; go_simp; all_goals with_reducible rfl)
          try simp only [Act.put, List.setIfInBounds_toArray, List.set_cons_zero, List.set_cons_succ]
          refine take_in (i := 28) (v := ?vz11_28) rfl (by kernel_rfl) (fun _ _ _ h => h) rfl ?hz11_28 hHeld ?rz11_28
          case hz11_28 => (intro w hSw; go_simp; all_goals with_reducible rfl)
          try simp only [Act.put, List.setIfInBounds_toArray, List.set_cons_zero, List.set_cons_succ]
          refine take_in (i := 29) (v := ?vz11_29) rfl (by kernel_rfl) (fun _ _ _ h => h) rfl ?hz11_29 hHeld ?rz11_29
          case hz11_29 => (intro w hSw; go_simp; all_goals with_reducible rfl)
          try simp only [Act.put, List.setIfInBounds_toArray, List.set_cons_zero, List.set_cons_succ]
          refine take_in (i := 30) (v := ?vz11_30) rfl (by kernel_rfl) (fun _ _ _ h => h) rfl ?hz11_30 hHeld ?rz11_30
          case hz11_30 => (intro w hSw; go_simp; all_goals with_reducible rfl)
          try simp only [Act.put, List.setIfInBounds_toArray, List.set_cons_zero, List.set_cons_succ]
          refine wpAnyH_done (by kernel_rfl) ?_ _
          go_wp2_with fail
          refine (alive_any _).mono ?_
          rintro e w' ⟨rfl, rfl⟩
          go_wp2_with fail
          go_ret
          exact ⟨rfl, HWD.out⟩
        have c5' : (a == 15) = false := by simpa using c5
        have HL := Lib.hid (HF.out (by rw [show allI 4 = 15 from by decide]; exact c5))
        clear c3 c4 c5 HF g1
        refine wp_region_held_drew (S := fun w' => w'.cell? ⟨w1.heap.size, 0, none⟩ = some (.int .i64 a) ∧ w'.cell? ⟨w1.heap.size, 1, none⟩ = some (.int .i64 b)) (by kernel_rfl) ⟨hc0, hc1⟩ (fun hHeld => ?_)
        refine take_in (i := 0) (v := ?vz12_0) rfl (by kernel_rfl) (fun _ _ _ h => h) rfl ?hz12_0 hHeld ?rz12_0
        case hz12_0 => (intro w hSw; go_simp; all_goals with_reducible rfl)
        try simp only [Act.put, List.setIfInBounds_toArray, List.set_cons_zero, List.set_cons_succ]
        refine take_in (i := 1) (v := ?vz12_1) rfl (by kernel_rfl) (fun _ _ _ h => h) rfl ?hz12_1 hHeld ?rz12_1
        case hz12_1 => (intro w hSw; go_simp; all_goals with_reducible rfl)
        try simp only [Act.put, List.setIfInBounds_toArray, List.set_cons_zero, List.set_cons_succ]
        refine wpAnyH_ready (rs := [2]) (by kernel_rfl) (by simp) ?_
        refine AllReadyH.cons rfl (fun K hK => ?_) AllReadyH.nil
        go_simp
        go_at_call 52
        refine (specQuoteOk_v HQ.out w.drew).mono ?_
        rintro e wq ⟨rfl, rfl⟩
        refine hK.out _ _ HD.out (fun hHeld => ?_)
        clear hK K
        try simp only [Act.put, List.setIfInBounds_toArray, List.set_cons_zero, List.set_cons_succ]
        refine take_in (i := 3) (v := ?vz12_3) rfl (by kernel_rfl) (fun _ _ _ h => h) rfl ?hz12_3 hHeld ?rz12_3
        case hz12_3 => (intro w hSw; go_simp; all_goals with_reducible rfl)
        try simp only [Act.put, List.setIfInBounds_toArray, List.set_cons_zero, List.set_cons_succ]
        refine take_in (i := 4) (v := ?vz12_4) rfl (by kernel_rfl) (fun _ _ _ h => h) rfl ?hz12_4 hHeld ?rz12_4
        case hz12_4 => (intro w hSw; go_simp; all_goals with_reducible rfl)
        try simp only [Act.put, List.setIfInBounds_toArray, List.set_cons_zero, List.set_cons_succ]
        refine take_in (i := 5) (v := ?vz12_5) rfl (by kernel_rfl) (fun _ _ _ h => h) rfl ?hz12_5 hHeld ?rz12_5
        case hz12_5 => (intro w hSw; go_simp; all_goals with_reducible rfl)
        try simp only [Act.put, List.setIfInBounds_toArray, List.set_cons_zero, List.set_cons_succ]
        refine take_in (i := 6) (v := ?vz12_6) rfl (by kernel_rfl) (fun _ _ _ h => h) rfl ?hz12_6 hHeld ?rz12_6
        case hz12_6 => (intro w hSw; go_simp; all_goals with_reducible rfl)
        try simp only [Act.put, List.setIfInBounds_toArray, List.set_cons_zero, List.set_cons_succ]
        refine take_in (i := 7) (v := ?vz12_7) rfl (by kernel_rfl) (fun _ _ _ h => h) rfl ?hz12_7 hHeld ?rz12_7
        case hz12_7 => (intro w hSw; go_simp; all_goals with_reducible rfl)
        try simp only [Act.put, List.setIfInBounds_toArray, List.set_cons_zero, List.set_cons_succ]
        refine take_in (i := 8) (v := ?vz12_8) rfl (by kernel_rfl) (fun _ _ _ h => h) rfl ?hz12_8 hHeld ?rz12_8
        case hz12_8 => (intro w hSw; go_simp; all_goals with_reducible rfl)
        try simp only [Act.put, List.setIfInBounds_toArray, List.set_cons_zero, List.set_cons_succ]
        refine take_in (i := 9) (v := ?vz12_9) rfl (by kernel_rfl) (fun _ _ _ h => h) rfl ?hz12_9 hHeld ?rz12_9
        case hz12_9 => (intro w hSw; go_simp; all_goals with_reducible rfl)
        try simp only [Act.put, List.setIfInBounds_toArray, List.set_cons_zero, List.set_cons_succ]
        refine take_in (i := 10) (v := ?vz12_10) rfl (by kernel_rfl) (fun _ _ _ h => h) rfl ?hz12_10 hHeld ?rz12_10
        case hz12_10 => (intro w hSw; go_simp; all_goals with_reducible rfl)
        try simp only [Act.put, List.setIfInBounds_toArray, List.set_cons_zero, List.set_cons_succ]
        refine take_in (i := 11) (v := ?vz12_11) rfl (by kernel_rfl) (fun _ _ _ h => h) rfl ?hz12_11 hHeld ?rz12_11
        case hz12_11 => (intro w hSw; go_simp; all_goals with_reducible rfl)
        try simp only [Act.put, List.setIfInBounds_toArray, List.set_cons_zero, List.set_cons_succ]
        refine take_in (i := 12) (v := ?vz12_12) rfl (by kernel_rfl) (fun _ _ _ h => h) rfl ?hz12_12 hHeld ?rz12_12
        case hz12_12 => (intro w hSw; go_simp; all_goals with_reducible rfl)
        try simp only [Act.put, List.setIfInBounds_toArray, List.set_cons_zero, List.set_cons_succ]
        refine take_in (i := 13) (v := ?vz12_13) rfl (by kernel_rfl) (fun _ _ _ h => h) rfl ?hz12_13 hHeld ?rz12_13
        case hz12_13 => (intro w hSw; go_simp; all_goals with_reducible rfl)
        try simp only [Act.put, List.setIfInBounds_toArray, List.set_cons_zero, List.set_cons_succ]
        refine take_in (i := 14) (v := ?vz12_14) rfl (by kernel_rfl) (fun _ _ _ h => h) rfl ?hz12_14 hHeld ?rz12_14
        case hz12_14 => (intro w hSw; go_simp; all_goals with_reducible rfl)
        try simp only [Act.put, List.setIfInBounds_toArray, List.set_cons_zero, List.set_cons_succ]
        refine take_in (i := 15) (v := ?vz12_15) rfl (by kernel_rfl) (fun _ _ _ h => h) rfl ?hz12_15 hHeld ?rz12_15
        case hz12_15 => (intro w hSw; go_simp; all_goals with_reducible rfl)
        try simp only [Act.put, List.setIfInBounds_toArray, List.set_cons_zero, List.set_cons_succ]
        refine take_in (i := 16) (v := ?vz12_16) rfl (by kernel_rfl) (fun _ _ _ h => h) rfl ?hz12_16 hHeld ?rz12_16
        case hz12_16 => (intro w hSw; go_simp; all_goals with_reducible rfl)
        try simp only [Act.put, List.setIfInBounds_toArray, List.set_cons_zero, List.set_cons_succ]
        refine take_in (i := 17) (v := ?vz12_17) rfl (by kernel_rfl) (fun _ _ _ h => h) rfl ?hz12_17 hHeld ?rz12_17
        case hz12_17 => (intro w hSw; go_simp; all_goals with_reducible rfl)
        try simp only [Act.put, List.setIfInBounds_toArray, List.set_cons_zero, List.set_cons_succ]
        refine take_in (i := 18) (v := ?vz12_18) rfl (by kernel_rfl) (fun _ _ _ h => h) rfl ?hz12_18 hHeld ?rz12_18
        case hz12_18 => (intro w hSw; go_simp; all_goals with_reducible rfl)
        try simp only [Act.put, List.setIfInBounds_toArray, List.set_cons_zero, List.set_cons_succ]
        refine take_in (i := 19) (v := ?vz12_19) rfl (by kernel_rfl) (fun _ _ _ h => h) rfl ?hz12_19 hHeld ?rz12_19
        case hz12_19 => (intro w hSw; go_simp; all_goals with_reducible rfl)
        try simp only [Act.put, List.setIfInBounds_toArray, List.set_cons_zero, List.set_cons_succ]
        refine take_in (i := 20) (v := ?vz12_20) rfl (by kernel_rfl) (fun _ _ _ h => h) rfl ?hz12_20 hHeld ?rz12_20
        case hz12_20 => (intro w hSw; go_simp; all_goals with_reducible rfl)
        try simp only [Act.put, List.setIfInBounds_toArray, List.set_cons_zero, List.set_cons_succ]
        refine take_in (i := 21) (v := ?vz12_21) rfl (by kernel_rfl) (fun _ _ _ h => h) rfl ?hz12_21 hHeld ?rz12_21
        case hz12_21 => (intro w hSw; go_simp; all_goals with_reducible rfl)
        try simp only [Act.put, List.setIfInBounds_toArray, List.set_cons_zero, List.set_cons_succ]
        refine take_in (i := 22) (v := ?vz12_22) rfl (by kernel_rfl) (fun _ _ _ h => h) rfl ?hz12_22 hHeld ?rz12_22
        case hz12_22 => (intro w hSw; go_simp; all_goals with_reducible rfl)
        try simp only [Act.put, List.setIfInBounds_toArray, List.set_cons_zero, List.set_cons_succ]
        refine take_in (i := 23) (v := ?vz12_23) rfl (by kernel_rfl) (fun _ _ _ h => h) rfl ?hz12_23 hHeld ?rz12_23
        case hz12_23 => (intro w hSw; go_simp; all_goals with_reducible rfl)
        try simp only [Act.put, List.setIfInBounds_toArray, List.set_cons_zero, List.set_cons_succ]
        refine take_in (i := 24) (v := ?vz12_24) rfl (by kernel_rfl) (fun _ _ _ h => h) rfl ?hz12_24 hHeld ?rz12_24
        case hz12_24 => (intro w hSw; go_simp; all_goals with_reducible rfl)
        try simp only [Act.put, List.setIfInBounds_toArray, List.set_cons_zero, List.set_cons_succ]
        refine take_in (i := 25) (v := ?vz12_25) rfl (by kernel_rfl) (fun _ _ _ h => h) rfl ?hz12_25 hHeld ?rz12_25
        case hz12_25 => (intro w hSw; go_simp; all_goals with_reducible rfl)
        try simp only [Act.put, List.setIfInBounds_toArray, List.set_cons_zero, List.set_cons_succ]
        refine take_in (i := 26) (v := ?vz12_26) rfl (by kernel_rfl) (fun _ _ _ h => h) rfl ?hz12_26 hHeld ?rz12_26
        case hz12_26 => (intro w hSw; go_simp; all_goals with_reducible rfl)
        try simp only [Act.put, List.setIfInBounds_toArray, List.set_cons_zero, List.set_cons_succ]
        refine take_in (i := 27) (v := ?vz12_27) rfl (by kernel_rfl) (fun _ _ _ h => h) rfl ?hz12_27 hHeld ?rz12_27
        case hz12_27 => (intro w hSw; go_simp; all_goals with_reducible rfl)
        try simp only [Act.put, List.setIfInBounds_toArray, List.set_cons_zero, List.set_cons_succ]
        refine take_in (i := 28) (v := ?vz12_28) rfl (by kernel_rfl) (fun _ _ _ h => h) rfl ?hz12_28 hHeld ?rz12_28
        case hz12_28 => (intro w hSw; go_simp; all_goals with_reducible rfl)
        try simp only [Act.put, List.setIfInBounds_toArray, List.set_cons_zero, List.set_cons_succ]
        refine take_in (i := 29) (v := ?vz12_29) rfl (by kernel_rfl) (fun _ _ _ h => h) rfl ?hz12_29 hHeld ?rz12_29
        case hz12_29 => (intro w hSw; go_simp; all_goals with_reducible rfl)
        try simp only [Act.put, List.setIfInBounds_toArray, List.set_cons_zero, List.set_cons_succ]
        refine take_in (i := 30) (v := ?vz12_30) rfl (by kernel_rfl) (fun _ _ _ h => h) rfl ?hz12_30 hHeld ?rz12_30
        case hz12_30 => (intro w hSw; go_simp; all_goals with_reducible rfl)
        try simp only [Act.put, List.setIfInBounds_toArray, List.set_cons_zero, List.set_cons_succ]
        refine wpAnyH_done (by kernel_rfl) ?_ _
        generalize w.drew.alloc (qBlk (a, b)) = u at HD HWD ⊢
        obtain ⟨e0, e1⟩ := HD.out
        clear hHeld hc0 hc1 HD HQ HC HW
        have hlt0 : w1.heap.size < u.heap.size := World.block_lt_of_cell? u _ e1
        by_cases hlt : s < b
        · have HL1 : Hid (lossOk 4 [(a, b), (a, s)] = true ∧ lossR 4 [(a, b), (a, s)] = [1, -1] ∧ sureI 4 [(a, b), (a, s)] = b - s) := Lib.hid (by
            obtain ⟨k1, k2, k3⟩ := HL.out
            refine ⟨k1, ?_, ?_⟩
            · rw [k2, pairS, if_pos hlt]
            · rw [k3, pairD, if_pos hlt]; omega)
          clear HL
          go_wp2_with fail
          refine (implLosingStakes_any _ _ _ _ (two_rd u a b s)).mono ?_
          rintro e x1 ⟨v, rfl, o1, b1⟩
          rw [HL1.out.1]
          rw [HL1.out.2.1] at o1
          obtain ⟨g, cap, rfl, hcap1, hcap2⟩ := o1.form (by simp)
          have HO1 := Lib.hid o1
          have HB1 := Lib.hid b1
          clear o1 b1
          go_wp2_with fail
          refine (implSureLossOf_any _ _ _ _ ((two_rd u a b s).keep (SameAt.of_below HB1.out))).mono ?_
          rintro e x2 ⟨rfl, b2⟩
          rw [HL1.out.1, HL1.out.2.2]
          have HO2 := Lib.hid (HO1.out.keep (SameAt.of_below b2))
          have hk0 : x2.cell? ⟨g, 0, none⟩ = some (.int .i64 (1)) := HO2.out.cellk rfl
          have hk1 : x2.cell? ⟨g, 1, none⟩ = some (.int .i64 (-1)) := HO2.out.cellk rfl
          have HBU : Hid (Below u.heap.size u x2) := Lib.hid (below_step ((Below.refl _ u).alloc (Nat.le_refl _) _) (below_step HB1.out b2 HB1.out.size) (by simp))
          have hf1 : x2.cell? ⟨w1.heap.size, 1, none⟩ = some (.int .i64 b) := (HBU.out.cell (p := ⟨w1.heap.size, 1, none⟩) hlt0).trans e1
          clear b2 e0 e1
          go_wp2_with fail
          go_ret
          exact ⟨ret_bool (by simp), below_step HWD.out HBU.out HWD.out.size⟩
        · have HL1 : Hid (lossOk 4 [(a, b), (a, s)] = true ∧ lossR 4 [(a, b), (a, s)] = [-1, 1] ∧ sureI 4 [(a, b), (a, s)] = s - b) := Lib.hid (by
            obtain ⟨k1, k2, k3⟩ := HL.out
            refine ⟨k1, ?_, ?_⟩
            · rw [k2, pairS, if_neg hlt]
            · rw [k3, pairD, if_neg hlt]; omega)
          clear HL
          go_wp2_with fail
          refine (implLosingStakes_any _ _ _ _ (two_rd u a b s)).mono ?_
          rintro e x1 ⟨v, rfl, o1, b1⟩
          rw [HL1.out.1]
          rw [HL1.out.2.1] at o1
          obtain ⟨g, cap, rfl, hcap1, hcap2⟩ := o1.form (by simp)
          have HO1 := Lib.hid o1
          have HB1 := Lib.hid b1
          clear o1 b1
          go_wp2_with fail
          refine (implSureLossOf_any _ _ _ _ ((two_rd u a b s).keep (SameAt.of_below HB1.out))).mono ?_
          rintro e x2 ⟨rfl, b2⟩
          rw [HL1.out.1, HL1.out.2.2]
          have HO2 := Lib.hid (HO1.out.keep (SameAt.of_below b2))
          have hk0 : x2.cell? ⟨g, 0, none⟩ = some (.int .i64 (-1)) := HO2.out.cellk rfl
          have hk1 : x2.cell? ⟨g, 1, none⟩ = some (.int .i64 (1)) := HO2.out.cellk rfl
          have HBU : Hid (Below u.heap.size u x2) := Lib.hid (below_step ((Below.refl _ u).alloc (Nat.le_refl _) _) (below_step HB1.out b2 HB1.out.size) (by simp))
          have hf1 : x2.cell? ⟨w1.heap.size, 1, none⟩ = some (.int .i64 b) := (HBU.out.cell (p := ⟨w1.heap.size, 1, none⟩) hlt0).trans e1
          clear b2 e0 e1
          go_wp2_with fail
          go_ret
          exact ⟨ret_bool (by simp), below_step HWD.out HBU.out HWD.out.size⟩
    · have HQ := Lib.hid ht
      clear ht
      refine wp_region_held_drew (S := fun w' => w'.cell? ⟨w1.heap.size, 0, none⟩ = some (.int .i64 a) ∧ w'.cell? ⟨w1.heap.size, 1, none⟩ = some (.int .i64 b)) (by kernel_rfl) ⟨hc0, hc1⟩ (fun hHeld => ?_)
      refine take_in (i := 0) (v := ?vz13_0) rfl (by kernel_rfl) (fun _ _ _ h => h) rfl ?hz13_0 hHeld ?rz13_0
      case hz13_0 => (intro w hSw; go_simp; all_goals with_reducible rfl)
      try simp only [Act.put, List.setIfInBounds_toArray, List.set_cons_zero, List.set_cons_succ]
      refine take_in (i := 1) (v := ?vz13_1) rfl (by kernel_rfl) (fun _ _ _ h => h) rfl ?hz13_1 hHeld ?rz13_1
      case hz13_1 => (intro w hSw; go_simp; all_goals with_reducible rfl)
      try simp only [Act.put, List.setIfInBounds_toArray, List.set_cons_zero, List.set_cons_succ]
      refine wpAnyH_ready (rs := [2]) (by kernel_rfl) (by simp) ?_
      refine AllReadyH.cons rfl (fun K hK => ?_) AllReadyH.nil
      go_simp
      go_at_call 52
      refine (specQuoteOk_v HQ.out w.drew).mono ?_
      rintro e wq ⟨rfl, rfl⟩
      refine hK.out _ _ HD.out (fun hHeld => ?_)
      clear hK K
      try simp only [Act.put, List.setIfInBounds_toArray, List.set_cons_zero, List.set_cons_succ]
      refine take_in (i := 3) (v := ?vz13_3) rfl (by kernel_rfl) (fun _ _ _ h => h) rfl ?hz13_3 hHeld ?rz13_3
      case hz13_3 => (intro w hSw; go_simp; all_goals with_reducible rfl)
      try simp only [Act.put, List.setIfInBounds_toArray, List.set_cons_zero, List.set_cons_succ]
      refine take_in (i := 4) (v := ?vz13_4) rfl (by kernel_rfl) (fun _ _ _ h => h) rfl ?hz13_4 hHeld ?rz13_4
      case hz13_4 => (intro w hSw; go_simp; all_goals with_reducible rfl)
      try simp only [Act.put, List.setIfInBounds_toArray, List.set_cons_zero, List.set_cons_succ]
      refine take_out (i := 5) rfl (by kernel_rfl) (fun _ _ _ h => h) rfl hHeld ?_
      try simp only [Act.put, List.setIfInBounds_toArray, List.set_cons_zero, List.set_cons_succ]
      refine take_out (i := 6) rfl (by kernel_rfl) (fun _ _ _ h => h) rfl hHeld ?_
      try simp only [Act.put, List.setIfInBounds_toArray, List.set_cons_zero, List.set_cons_succ]
      refine take_in (i := 7) (v := ?vz13_7) rfl (by kernel_rfl) (fun _ _ _ h => h) rfl ?hz13_7 hHeld ?rz13_7
      case hz13_7 => (intro w hSw; go_simp; all_goals with_reducible rfl)
      try simp only [Act.put, List.setIfInBounds_toArray, List.set_cons_zero, List.set_cons_succ]
      refine take_in (i := 8) (v := ?vz13_8) rfl (by kernel_rfl) (fun _ _ _ h => h) rfl ?hz13_8 hHeld ?rz13_8
      case hz13_8 => (intro w hSw; go_simp; all_goals with_reducible rfl)
      try simp only [Act.put, List.setIfInBounds_toArray, List.set_cons_zero, List.set_cons_succ]
      refine take_out (i := 9) rfl (by kernel_rfl) (fun _ _ _ h => h) rfl hHeld ?_
      try simp only [Act.put, List.setIfInBounds_toArray, List.set_cons_zero, List.set_cons_succ]
      refine take_out (i := 10) rfl (by kernel_rfl) (fun _ _ _ h => h) rfl hHeld ?_
      try simp only [Act.put, List.setIfInBounds_toArray, List.set_cons_zero, List.set_cons_succ]
      refine take_in (i := 11) (v := ?vz13_11) rfl (by kernel_rfl) (fun _ _ _ h => h) rfl ?hz13_11 hHeld ?rz13_11
      case hz13_11 => (intro w hSw; go_simp; all_goals with_reducible rfl)
      try simp only [Act.put, List.setIfInBounds_toArray, List.set_cons_zero, List.set_cons_succ]
      refine take_in (i := 12) (v := ?vz13_12) rfl (by kernel_rfl) (fun _ _ _ h => h) rfl ?hz13_12 hHeld ?rz13_12
      case hz13_12 => (intro w hSw; go_simp; all_goals with_reducible rfl)
      try simp only [Act.put, List.setIfInBounds_toArray, List.set_cons_zero, List.set_cons_succ]
      refine take_out (i := 13) rfl (by kernel_rfl) (fun _ _ _ h => h) rfl hHeld ?_
      try simp only [Act.put, List.setIfInBounds_toArray, List.set_cons_zero, List.set_cons_succ]
      refine take_out (i := 14) rfl (by kernel_rfl) (fun _ _ _ h => h) rfl hHeld ?_
      try simp only [Act.put, List.setIfInBounds_toArray, List.set_cons_zero, List.set_cons_succ]
      refine take_out (i := 15) rfl (by kernel_rfl) (fun _ _ _ h => h) rfl hHeld ?_
      try simp only [Act.put, List.setIfInBounds_toArray, List.set_cons_zero, List.set_cons_succ]
      refine take_out (i := 16) rfl (by kernel_rfl) (fun _ _ _ h => h) rfl hHeld ?_
      try simp only [Act.put, List.setIfInBounds_toArray, List.set_cons_zero, List.set_cons_succ]
      refine take_in (i := 17) (v := ?vz13_17) rfl (by kernel_rfl) (fun _ _ _ h => h) rfl ?hz13_17 hHeld ?rz13_17
      case hz13_17 => (intro w hSw; go_simp; all_goals with_reducible rfl)
      try simp only [Act.put, List.setIfInBounds_toArray, List.set_cons_zero, List.set_cons_succ]
      refine take_in (i := 18) (v := ?vz13_18) rfl (by kernel_rfl) (fun _ _ _ h => h) rfl ?hz13_18 hHeld ?rz13_18
      case hz13_18 => (intro w hSw; go_simp; all_goals with_reducible rfl)
      try simp only [Act.put, List.setIfInBounds_toArray, List.set_cons_zero, List.set_cons_succ]
      refine take_out (i := 19) rfl (by kernel_rfl) (fun _ _ _ h => h) rfl hHeld ?_
      try simp only [Act.put, List.setIfInBounds_toArray, List.set_cons_zero, List.set_cons_succ]
      refine take_out (i := 20) rfl (by kernel_rfl) (fun _ _ _ h => h) rfl hHeld ?_
      try simp only [Act.put, List.setIfInBounds_toArray, List.set_cons_zero, List.set_cons_succ]
      refine take_out (i := 21) rfl (by kernel_rfl) (fun _ _ _ h => h) rfl hHeld ?_
      try simp only [Act.put, List.setIfInBounds_toArray, List.set_cons_zero, List.set_cons_succ]
      refine take_in (i := 22) (v := ?vz13_22) rfl (by kernel_rfl) (fun _ _ _ h => h) rfl ?hz13_22 hHeld ?rz13_22
      case hz13_22 => (intro w hSw; go_simp; all_goals with_reducible rfl)
      try simp only [Act.put, List.setIfInBounds_toArray, List.set_cons_zero, List.set_cons_succ]
      refine take_in (i := 23) (v := ?vz13_23) rfl (by kernel_rfl) (fun _ _ _ h => h) rfl ?hz13_23 hHeld ?rz13_23
      case hz13_23 => (intro w hSw; go_simp; all_goals with_reducible rfl)
      try simp only [Act.put, List.setIfInBounds_toArray, List.set_cons_zero, List.set_cons_succ]
      refine take_out (i := 24) rfl (by kernel_rfl) (fun _ _ _ h => h) rfl hHeld ?_
      try simp only [Act.put, List.setIfInBounds_toArray, List.set_cons_zero, List.set_cons_succ]
      refine take_out (i := 25) rfl (by kernel_rfl) (fun _ _ _ h => h) rfl hHeld ?_
      try simp only [Act.put, List.setIfInBounds_toArray, List.set_cons_zero, List.set_cons_succ]
      refine take_out (i := 26) rfl (by kernel_rfl) (fun _ _ _ h => h) rfl hHeld ?_
      try simp only [Act.put, List.setIfInBounds_toArray, List.set_cons_zero, List.set_cons_succ]
      refine take_out (i := 27) rfl (by kernel_rfl) (fun _ _ _ h => h) rfl hHeld ?_
      try simp only [Act.put, List.setIfInBounds_toArray, List.set_cons_zero, List.set_cons_succ]
      refine take_out (i := 28) rfl (by kernel_rfl) (fun _ _ _ h => h) rfl hHeld ?_
      try simp only [Act.put, List.setIfInBounds_toArray, List.set_cons_zero, List.set_cons_succ]
      refine take_out (i := 29) rfl (by kernel_rfl) (fun _ _ _ h => h) rfl hHeld ?_
      try simp only [Act.put, List.setIfInBounds_toArray, List.set_cons_zero, List.set_cons_succ]
      refine take_in (i := 30) (v := ?vz13_30) rfl (by kernel_rfl) (fun _ _ _ h => h) rfl ?hz13_30 hHeld ?rz13_30
      case hz13_30 => (intro w hSw; go_simp; all_goals with_reducible rfl)
      try simp only [Act.put, List.setIfInBounds_toArray, List.set_cons_zero, List.set_cons_succ]
      refine wpAnyH_done (by kernel_rfl) ?_ _
      go_wp2_with fail
      refine (alive_any _).mono ?_
      rintro e w' ⟨rfl, rfl⟩
      go_wp2_with fail
      go_ret
      exact ⟨rfl, HWD.out⟩

end Go.Proofs.Ytfjmlbcmidichaa
