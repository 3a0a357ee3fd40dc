/- The contract of spec.TakenBy. Conditions: a row that reads. (gen_yf.py) -/
import Derived.Test.YteefbkfhgmbcbaaYe
import Derived.Test.YteefbkfhgmbcbaaRh
namespace Go.Proofs.Yteefbkfhgmbcbaa
open Go.RowKit
set_option linter.unusedVariables false

theorem run_app_int (w : World) (base : Nat) (v : Value) (xs : List Int) (L : Nat) (hL : xs.length = L) (n : Int) (hown : IOwn w base v xs) (h1 : L ≤ 1000000) (hb : base ≤ w.heap.size) :
    ∃ g c w', (Builtin.append_ #[31, 31] 31 #[v, .slice (some ⟨w.heap.size, 0, none⟩) 1 1]).run Try.prog (w.alloc (.cells #[.int .i64 n] 3)) = .ok (.slice (some ⟨g, 0, none⟩) (L + 1) c) w' ∧ IOwn w' base (.slice (some ⟨g, 0, none⟩) (L + 1) c) (xs ++ [n]) ∧ w.grownBy w' v.ownBlock := by
  subst hL
  obtain ⟨i0, hi, hz0, hz1, hz2⟩ := info_parts Try_intinfo
  have hown2 : (w.alloc (.cells #[.int .i64 n] 3)).ownsRow base 3 1 v xs.length (xs.map (Value.int .i64)) := World.ownsRow.alloc hown _
  obtain ⟨v', w', k0, k1, k2, -, k4⟩ := run_append_own_at (P := Try.prog) (w.alloc (.cells #[.int .i64 n] 3)) base 31 31 3 i0 (.int .i64 0) 1 8 Try.underlying31 hi hz0 hz1 hz2 rfl (by decide) v xs.length (xs.map (Value.int .i64)) hown2 ⟨w.heap.size, 0, none⟩ 1 1 [.int .i64 n] rfl (one_new w _ _) one_int (by unfold maxLen; omega) (by omega) (by simp; omega)
  have hl : (xs ++ [n]).length = xs.length + 1 := by simp
  obtain ⟨g, c, hv, -⟩ : ∃ g c, v' = .slice (some ⟨g, 0, none⟩) (xs.length + 1) c ∧ True := by
    rcases k1.2 with ⟨-, hz⟩ | ⟨g, cap, cur, e, -⟩
    · omega
    · exact ⟨g, cap, e, trivial⟩
  subst hv
  refine ⟨g, c, w', k0, ?_, grown_after (alloc_b10 w _) k2⟩
  unfold IOwn
  rw [hl, List.map_append]
  exact k1

set_option maxRecDepth 100000 in
set_option maxHeartbeats 8000000 in
theorem specTakenBy_any (w : World) (W : Int) (v : Value) (ts : List Qt) (x : Int) (hv : QRd w v ts) :
    Calls Try.prog 31 #[.int .i64 W, v, .int .i64 x] w (NewInts (takR W ts x) w) := by
  obtain ⟨A, c, rfl, hl, hm⟩ := hv.form
  have HV : Hid (∀ wr, Below w.heap.size w wr → QRd wr (.slice A ts.length c) ts) := Lib.hid (fun wr hb => hv.keep (SameAt.of_below hb))
  clear hv
  have hwl : IntKind.i64.wrap ((ts.length : Int) - 1) = (ts.length : Int) - 1 := IntWalk.i64_in _ (by omega)
  rcases Bool.eq_false_or_eq_true (takB W ts x) with h | h
  · obtain ⟨ht, x0, x1⟩ := (takB_iff _ _ _).1 h
    have HR : Hid (takR W ts x = takL W ts x.toNat) := Lib.hid (by rw [takR, if_pos h])
    have HI : Hid (inB x 0 ((ts.length : Int) - 1) = true) := Lib.hid ((inB_iff _ _ _).2 ⟨x0, x1⟩)
    obtain ⟨a, rfl⟩ : ∃ a : Nat, x = a := ⟨x.toNat, by omega⟩
    rw [Int.toNat_natCast] at HR
    have hal : a < ts.length := by omega
    have hal' : (a : Int) < (ts.length : Int) := by omega
    have ha0 : (0 : Int) ≤ (a : Int) := by omega
    have HP := Lib.hid (pays_of ht)
    obtain ⟨w1, w4, h6, -⟩ := (tkB_iff W ts).1 ht
    obtain ⟨N, rfl⟩ : ∃ N : Nat, W = N := ⟨W.toNat, by omega⟩
    have D0 := Lib.hid (ARel.start w (takL (N : Int) ts a))
    have HZ : Hid ((takL (N : Int) ts a).length = N) := Lib.hid (by rw [tak_len, Int.toNat_natCast])
    have HT := Lib.hid ht
    clear h ht
    go_enter Try.func31, Try.ntmps31
    go_wp2_with fail
    go_loopw [7, 8] (fun p i wr => ∃ (k g c : Nat), p = .slice (some ⟨g, 0, none⟩) k c ∧ i = .int .i64 (k : Int) ∧ k ≤ N ∧ Hid (ARel w (takL (N : Int) ts a) k (.slice (some ⟨g, 0, none⟩) k c) wr)) (fun _ i _ => N - (intOf i).toNat)
    case atStart => exact ⟨0, w.heap.size, 0, rfl, rfl, Nat.zero_le _, D0⟩
    case round =>
      obtain ⟨k, g, c1, rfl, rfl, hk, HF⟩ := hrel
      clear D0
      by_cases hlt : k < N
      · have hlt' : (k : Int) < (N : Int) := by omega
        obtain ⟨b, off, t, rfl, -, htt, hc0, hc1⟩ := QRd.at_ (HV.out wr HF.out.2) hal
        have HTT := Lib.hid htt
        have HC : Hid (∀ w', Below w.heap.size w w' → w'.cell? ⟨b, off + a * 2, none⟩ = some (.int .i64 t.1) ∧ w'.cell? ⟨b, off + a * 2 + 1, none⟩ = some (.int .i64 t.2)) := Lib.hid (fun w' hb => QRd.cell (HV.out w' hb) HTT.out)
        obtain ⟨no, hno, no0, -⟩ := out_ge HP.out (x := (k : Int)) htt
        have hno3 := out_le HP.out (k : Int) hno
        have hs3 := sum2_bound HP.out
        have htp := HP.out t (List.mem_of_getElem? htt)
        have HON := Lib.hid hno
        have HOR : Hid (outR (N : Int) ts (k : Int) = outL ts (k : Int)) := Lib.hid (by rw [outR, if_pos ((outB_iff _ _ _).2 ⟨HT.out, by omega, by omega⟩)])
        obtain ⟨y, hy⟩ : ∃ y, no - t.2 = y := ⟨_, rfl⟩
        have hwy : IntKind.i64.wrap (no - t.2) = y := by rw [hy]; exact IntWalk.i64_in _ (by omega)
        have HS : Hid ((takL (N : Int) ts a)[k]? = some y) := Lib.hid (by rw [tak_at (by rw [Int.toNat_natCast]; exact hlt), takI_is htt hno, hy])
        have HLK : Hid (((takL (N : Int) ts a).take k).length = k) := Lib.hid (by rw [List.length_take, HZ.out]; omega)
        clear htt hno hno3 hs3 hy hc0 hc1
        go_wp2_with fail
        refine (specTicketsOk_any wr _ _ ts (HV.out _ HF.out.2)).mono ?_
        rintro r w' ⟨rfl, rfl⟩
        rw [HT.out]
        go_wp2_with fail
        refine (l1In_any _ _ _ _).mono ?_
        rintro r w' ⟨rfl, rfl⟩
        rw [HI.out]
        go_wp2_with fail
        have k0 : Below w.heap.size w wr.drew := HF.out.2.drew
        refine wp_region_held_drew (S := fun w' => Below w.heap.size w w') (by kernel_rfl) k0 (fun hHeld => ?_)
        refine take_in (i := 0) (v := ?_) rfl (by kernel_rfl) (fun _ _ _ h => h) rfl ?_ hHeld ?_
        rotate_left
        · intro w' hSw; go_simp; all_goals with_reducible rfl
        try simp only [Act.put, List.setIfInBounds_toArray, List.set_cons_zero, List.set_cons_succ]
        refine take_in (i := 1) (v := ?_) rfl (by kernel_rfl) (fun _ _ _ h => h) rfl ?_ hHeld ?_
        rotate_left
        · intro w' hSw; go_simp; all_goals with_reducible rfl
        try simp only [Act.put, List.setIfInBounds_toArray, List.set_cons_zero, List.set_cons_succ]
        refine take_in (i := 2) (v := ?_) rfl (by kernel_rfl) (fun _ _ _ h => h) rfl ?_ hHeld ?_
        rotate_left
        · intro w' hSw; go_simp; all_goals with_reducible rfl
        try simp only [Act.put, List.setIfInBounds_toArray, List.set_cons_zero, List.set_cons_succ]
        refine take_in (i := 3) (v := ?_) rfl (by kernel_rfl) (fun _ _ _ h => h) rfl ?_ hHeld ?_
        rotate_left
        · intro w' hSw; go_simp; all_goals with_reducible rfl
        try simp only [Act.put, List.setIfInBounds_toArray, List.set_cons_zero, List.set_cons_succ]
        refine take_in (i := 5) (v := ?_) rfl (by kernel_rfl) (fun _ _ _ h => h) rfl ?_ hHeld ?_
        rotate_left
        · intro w' hSw; go_simp; all_goals with_reducible rfl
        try simp only [Act.put, List.setIfInBounds_toArray, List.set_cons_zero, List.set_cons_succ]
        refine take_in (i := 8) (v := ?_) rfl (by kernel_rfl) (fun _ _ _ h => h) rfl ?_ hHeld ?_
        rotate_left
        · intro w' hSw; go_simp; all_goals with_reducible rfl
        try simp only [Act.put, List.setIfInBounds_toArray, List.set_cons_zero, List.set_cons_succ]
        refine take_in (i := 9) (v := ?_) rfl (by kernel_rfl) (fun _ _ _ h => h) rfl ?_ hHeld ?_
        rotate_left
        · intro w' hSw; go_simp; all_goals with_reducible rfl
        try simp only [Act.put, List.setIfInBounds_toArray, List.set_cons_zero, List.set_cons_succ]
        refine take_in (i := 10) (v := ?_) rfl (by kernel_rfl) (fun _ _ _ h => h) rfl ?_ hHeld ?_
        rotate_left
        · intro w' hSw; go_simp; all_goals with_reducible rfl
        try simp only [Act.put, List.setIfInBounds_toArray, List.set_cons_zero, List.set_cons_succ]
        refine take_in (i := 11) (v := ?_) rfl (by kernel_rfl) (fun _ _ _ h => h) rfl ?_ hHeld ?_
        rotate_left
        · intro w' hSw; go_simp; all_goals with_reducible rfl
        try simp only [Act.put, List.setIfInBounds_toArray, List.set_cons_zero, List.set_cons_succ]
        refine take_in (i := 12) (v := ?_) rfl (by kernel_rfl) (fun _ _ _ h => h) rfl ?_ hHeld ?_
        rotate_left
        · intro w' hSw; obtain ⟨d0, d1⟩ := HC.out w' hSw; go_simp; all_goals with_reducible rfl
        try simp only [Act.put, List.setIfInBounds_toArray, List.set_cons_zero, List.set_cons_succ]
        refine ready_one (i := 4) rfl (by kernel_rfl) (fun K hK => ?_)
        go_simp
        go_at_call 28
        refine (specPaidOut_any wr.drew (N : Int) _ ts (k : Int) (HV.out _ k0)).mono ?_
        rintro e x1 ⟨vo, rfl, oo, bo⟩
        rw [HOR.out] at oo
        have k1 := below_step k0 bo k0.size
        have op1 : IOwn x1 w.heap.size (.slice (some ⟨g, 0, none⟩) k c1) ((takL (N : Int) ts a).take k) := (show IOwn wr.drew w.heap.size (.slice (some ⟨g, 0, none⟩) k c1) ((takL (N : Int) ts a).take k) from HF.out.1).keep (SameAt.of_below bo)
        obtain ⟨go, co, hvo⟩ : ∃ go co, vo = .slice (some ⟨go, 0, none⟩) ts.length co := by
          rcases oo.2 with ⟨-, hz⟩ | ⟨g, cap, cur, e, -⟩
          · rw [out_len] at hz; omega
          · rw [out_len] at e; exact ⟨g, cap, e⟩
        subst hvo
        have hco : x1.cell? ⟨go, a, none⟩ = some (.int .i64 no) := IOwn.cellk10 oo HON.out
        refine hK.out _ x1 k1 (fun hHeld => ?_)
        clear hK K
        try simp only [Act.put, List.setIfInBounds_toArray, List.set_cons_zero, List.set_cons_succ]
        refine take_in (i := 6) (v := ?_) rfl (by kernel_rfl) (fun _ _ _ h => h) rfl ?_ hHeld ?_
        rotate_left
        · intro w' hSw; go_simp; all_goals with_reducible rfl
        try simp only [Act.put, List.setIfInBounds_toArray, List.set_cons_zero, List.set_cons_succ]
        refine ready_one (i := 7) rfl (by kernel_rfl) (fun K hK => ?_)
        go_simp
        refine hK.out _ x1 k1 (fun hHeld => ?_)
        clear hK K
        try simp only [Act.put, List.setIfInBounds_toArray, List.set_cons_zero, List.set_cons_succ]
        refine take_in (i := 13) (v := ?_) rfl (by kernel_rfl) (fun _ _ _ h => h) rfl ?_ hHeld ?_
        rotate_left
        · intro w' hSw; go_simp; all_goals with_reducible rfl
        try simp only [Act.put, List.setIfInBounds_toArray, List.set_cons_zero, List.set_cons_succ]
        refine ready_one (i := 14) rfl (by kernel_rfl) (fun K hK => ?_)
        go_simp
        have k2 : Below w.heap.size w (x1.alloc (.cells #[.int .i64 y] 3)) := k1.alloc k1.size _
        refine hK.out _ (x1.alloc (.cells #[.int .i64 y] 3)) k2 (fun hHeld => ?_)
        clear hK K
        try simp only [Act.put, List.setIfInBounds_toArray, List.set_cons_zero, List.set_cons_succ]
        refine ready_one (i := 15) rfl (by kernel_rfl) (fun K hK => ?_)
        obtain ⟨g9, c9, x9, r9, o9, q9⟩ := run_app_int x1 w.heap.size _ _ k HLK.out y op1 (by omega) k1.size
        refine step_append (s := .tmp 27) (x := .tmp 41) rfl rfl r9 ?_
        have k9 : Below w.heap.size w x9 := k1.grown q9 k1.size (fun g' hg' => (op1.ge g' hg').1)
        have HF9 : Hid (ARel w (takL (N : Int) ts a) (k + 1) (.slice (some ⟨g9, 0, none⟩) (k + 1) c9) x9) := Lib.hid ⟨by rw [List.take_add_one, HS.out]; exact o9, k9⟩
        refine hK.out _ x9 k9 (fun hHeld => ?_)
        clear hK K
        try simp only [Act.put, List.setIfInBounds_toArray, List.set_cons_zero, List.set_cons_succ]
        refine take_in (i := 16) (v := ?_) rfl (by kernel_rfl) (fun _ _ _ h => h) rfl ?_ hHeld ?_
        rotate_left
        · intro w' hSw; go_simp; all_goals with_reducible rfl
        try simp only [Act.put, List.setIfInBounds_toArray, List.set_cons_zero, List.set_cons_succ]
        refine wpAnyH_done (by kernel_rfl) ?_ _
        clear k0 k1 k2 k9 op1 oo bo o9 q9 r9 hco
        go_wp2_with fail
        go_roundw
        case rel => exact ⟨k + 1, g9, c9, rfl, by go_num, by omega, HF9⟩
        case measure => simp [intOf]; omega
      · obtain rfl : k = N := by omega
        go_wp2_with fail
        go_ret
        exact ⟨_, rfl, by rw [HR.out]; have := HF.out.1; rwa [List.take_of_length_le (by rw [HZ.out]; exact Nat.le_refl _)] at this, HF.out.2⟩
  · have D0 := Lib.hid (ARel.start w [])
    have HR : Hid (takR W ts x = []) := Lib.hid (by rw [takR, h]; rfl)
    go_enter Try.func31, Try.ntmps31
    go_wp2_with fail
    go_loopw [7, 8] (fun p i wr => i = .int .i64 0 ∧ p = .slice (some ⟨w.heap.size, 0, none⟩) 0 0 ∧ Hid (ARel w [] 0 p wr)) (fun _ i _ => 0)
    case atStart => exact ⟨rfl, rfl, D0⟩
    case round =>
      obtain ⟨rfl, rfl, HF⟩ := hrel
      clear D0
      have HE : Hid (∀ wq, wq = wr → NewInts (takR W ts x) w (.returned (.slice (some ⟨w.heap.size, 0, none⟩) 0 0)) wq) := Lib.hid (by rintro wq rfl; exact ⟨_, rfl, by rw [HR.out]; exact HF.out.1, HF.out.2⟩)
      by_cases hw : 0 < W
      · cases h1 : tkB W ts with
        | false =>
          go_wp2_with fail
          refine (specTicketsOk_any wr _ _ ts (HV.out _ HF.out.2)).mono ?_
          rintro r w' ⟨rfl, rfl⟩
          rw [h1]
          go_wp2_with fail
          go_ret
          exact HE.out _ rfl
        | true =>
          have h2 : inB x 0 ((ts.length : Int) - 1) = false := by rw [takB, h1] at h; exact h
          go_wp2_with fail
          refine (specTicketsOk_any wr _ _ ts (HV.out _ HF.out.2)).mono ?_
          rintro r w' ⟨rfl, rfl⟩
          rw [h1]
          go_wp2_with fail
          refine (l1In_any _ _ _ _).mono ?_
          rintro r w' ⟨rfl, rfl⟩
          rw [h2]
          go_wp2_with fail
          go_ret
          exact HE.out _ rfl
      · have hw' : W ≤ 0 := by omega
        go_wp2_with fail
        go_ret
        exact HE.out _ rfl

end Go.Proofs.Yteefbkfhgmbcbaa
