/- Contracts of spec's l8Divisor, AfterEvent. Conditions: a row that reads as a list. -/
import Derived.Test.YtghmgnhiglmifaaWc
namespace Go.Proofs.Ytghmgnhiglmifaa
open Go.RowKit
set_option linter.unusedVariables false

theorem divG_next {m : List Int} {e : Int} {k n : Nat} (h : bitI e k * m.getD k 0 = (n : Int)) : divG m e (k + 1) = Nat.gcd (divG m e k) n := by
  rw [divG, h, Int.toNat_natCast]

theorem divG_le {m : List Int} {e : Int} (hm : Grs m) (k : Nat) (hk : k ≤ m.length) : divG m e k ≤ 36 := by
  induction k with
  | zero => simp [divG]
  | succ k ih =>
    have h1 := ih (by omega)
    obtain ⟨x, hx⟩ : ∃ x, m[k]? = some x := ⟨_, List.getElem?_eq_getElem hk⟩
    have hb := hm.1 x (List.mem_of_getElem? hx)
    obtain ⟨n, hn, hn2⟩ : ∃ n : Nat, bitI e k * m.getD k 0 = (n : Int) ∧ n ≤ 36 := by
      rw [getD_at hx]
      rcases bitI_01 e k with h | h <;> rw [h]
      · exact ⟨0, by omega, by omega⟩
      · exact ⟨x.toNat, by omega, by omega⟩
    rw [divG_next hn]
    rcases Nat.eq_zero_or_pos n with h0 | h0
    · rw [h0, Nat.gcd_zero_right]; exact h1
    · exact Nat.le_trans (Nat.gcd_le_right _ h0) hn2

set_option maxRecDepth 100000 in
set_option maxHeartbeats 8000000 in
theorem specDivisor_any (w : World) (v : Value) (m : List Int) (e : Int) (hv : IRd w v m) (hm : Grs m) (e1 : 0 ≤ e) (e2 : e ≤ 15) :
    Calls Try.prog 61 #[v, .int .i64 e] w (IntPost (divI m e) w) := by
  obtain ⟨A, c, rfl, hl, hmx, -⟩ := id hv
  have HV : Hid (∀ wr, Below w.heap.size w wr → IRd wr (.slice A m.length c) m) := Lib.hid (fun wr h => hv.keep (SameAt.of_below h))
  have HM := Lib.hid hm
  have hm4 := hm.2
  clear hv hm
  go_enter Try.func61, Try.ntmps61
  go_wp2_with fail
  go_loopw [5, 6] (fun t i wr => ∃ k c : Nat, i = .int .i64 (k : Int) ∧ t = .int .i64 (c : Int) ∧ k ≤ m.length ∧ c ≤ 36 ∧ Hid (c = divG m e k) ∧ Hid (Below w.heap.size w wr)) (fun _ i _ => m.length - (intOf i).toNat)
  case atStart => exact ⟨0, 0, rfl, rfl, Nat.zero_le _, by omega, Lib.hid rfl, Lib.hid (Below.refl _ _)⟩
  case round =>
    obtain ⟨k, g, rfl, rfl, hk, hg, HG, HB⟩ := hrel
    by_cases hlt : k < m.length
    · have hlt' : (k : Int) < (m.length : Int) := by omega
      have hk0 : (0 : Int) ≤ (k : Int) := by omega
      obtain ⟨B, off, x, rfl, -, hx, hcx⟩ := (HV.out wr HB.out).at_ hlt
      obtain ⟨x1, x2⟩ := HM.out.1 x (List.mem_of_getElem? hx)
      obtain ⟨u, htb, hub, u0, u1⟩ := bit_tmod8 (e := e) e1 k
      obtain ⟨n, hn, hn2⟩ : ∃ n : Nat, u * x = (n : Int) ∧ n ≤ 36 := by
        obtain rfl | rfl : u = 0 ∨ u = 1 := by omega
        · exact ⟨0, by omega, by omega⟩
        · exact ⟨x.toNat, by omega, by omega⟩
      have HNX : Hid (divG m e (k + 1) = Nat.gcd g n) := Lib.hid (by rw [HG.out]; exact divG_next (by rw [getD_at hx, hub]; exact hn))
      have HLE := Lib.hid (divG_le (e := e) HM.out (k + 1) hlt)
      have hw1 : IntKind.i64.wrap (u * x) = (n : Int) := by rw [hn]; exact IntWalk.i64_in _ (by omega)
      clear hx hub hn
      by_cases hn0 : n = 0
      · subst hn0
        have HNX2 : Hid (g = divG m e (k + 1)) := Lib.hid (by rw [HNX.out, Nat.gcd_zero_right])
        go_wp2_with fail
        go_region
        all_goals
          go_wp2_with fail
          go_roundw
          case rel => exact ⟨k + 1, g, by go_num, rfl, by omega, by omega, HNX2, Lib.hid HB.out.drew⟩
          case measure => simp [intOf]; omega
      · have hnb : ((n : Int) == 0) = false := by rw [beq_eq_false_iff_ne]; omega
        by_cases hg0 : g = 0
        · subst hg0
          have HNX2 : Hid (n = divG m e (k + 1)) := Lib.hid (by rw [HNX.out, Nat.gcd_zero_left])
          go_wp2_with fail
          go_region
          all_goals
            go_wp2_with fail
            go_roundw
            case rel => exact ⟨k + 1, n, by go_num, rfl, by omega, by omega, HNX2, Lib.hid HB.out.drew⟩
            case measure => simp [intOf]; omega
        · have hgb : ((g : Int) == 0) = false := by rw [beq_eq_false_iff_ne]; omega
          have HGC : Hid (gcI (g : Int) (n : Int) = ((divG m e (k + 1) : Nat) : Int)) := Lib.hid (by
            unfold gcI
            rw [Int.toNat_natCast, Int.toNat_natCast, HNX.out, Nat.max_eq_left]
            exact Nat.gcd_pos_of_pos_right _ (by omega))
          go_wp2_with fail
          go_region
          all_goals
            go_wp2_with fail
            refine (specCommon_any (g : Int) (n : Int) (by omega) (by omega) _).mono ?_
            rintro r w' ⟨rfl, rfl⟩
            rw [HGC.out]
            go_wp2_with fail
            go_roundw
            case rel => exact ⟨k + 1, _, by go_num, rfl, by omega, HLE.out, Lib.hid rfl, Lib.hid HB.out.drew⟩
            case measure => simp [intOf]; omega
    · have hge : (m.length : Int) ≤ (k : Int) := by omega
      have HE : Hid (divI m e = ((max g 1 : Nat) : Int)) := Lib.hid (by unfold divI; rw [HG.out, show k = m.length by omega])
      by_cases h1 : g < 1
      · have h1' : (g : Int) < 1 := by omega
        go_wp2_with fail
        go_ret
        exact ⟨ret_int (by rw [HE.out]; omega), HB.out⟩
      · have h1' : (1 : Int) ≤ (g : Int) := by omega
        go_wp2_with fail
        go_ret
        exact ⟨ret_int (by rw [HE.out]; omega), HB.out⟩

set_option maxRecDepth 100000 in
set_option maxHeartbeats 8000000 in
theorem specAfterEvent_any (w : World) (v : Value) (m : List Int) (e : Int) (hv : IRd w v m) :
    Calls Try.prog 31 #[v, .int .i64 e] w (RowOk w.heap.size (aftR m e) (aftB m e) w) := by
  obtain ⟨A, c, rfl, hl, hmx, -⟩ := id hv
  have HV : Hid (∀ wr, Below w.heap.size w wr → IRd wr (.slice A m.length c) m) := Lib.hid (fun wr h => hv.keep (SameAt.of_below h))
  clear hv
  rcases Bool.eq_false_or_eq_true (meaB m) with h1 | h1
  · rcases Bool.eq_false_or_eq_true (evB (m.length : Int) e) with h2 | h2
    · have HM := Lib.hid (grs_of h1)
      have hm4 := (grs_of h1).2
      obtain ⟨e1, e2⟩ := evB_15 h2
      obtain ⟨y0, hy0⟩ : ∃ y, onI m e = y := ⟨_, rfl⟩
      by_cases h0 : y0 = 0
      · subst h0
        have HN : Hid (aftB m e = false) := Lib.hid (by rw [aftB, h1, h2, hy0]; rfl)
        have HY := Lib.hid hy0
        clear hy0
        go_enter Try.func31, Try.ntmps31
        go_wp2_with fail
        refine (specMeasureOk_any _ _ _ (HV.out _ (Below.refl _ _))).mono ?_
        rintro r w' ⟨rfl, rfl⟩
        rw [h1]
        go_wp2_with fail
        refine (specEventOk_any _ _ _).mono ?_
        rintro r w' ⟨rfl, rfl⟩
        rw [h2]
        clear h1 h2
        go_wp2_with fail
        refine (l4On_any _ _ m e (HV.out _ (Below.refl _ _)) HM.out e1 e2).mono ?_
        rintro r w2 ⟨rfl, b3⟩
        rw [HY.out]
        have HB := Lib.hid b3
        clear b3
        go_wp2_with fail
        go_ret2
        exact rowOk_ret HN.out (aftR_no HN.out) (lit_own _ _ HB.out.size) (HB.out.alloc HB.out.size _)
      · have hyn : (y0 == 0) = false := by rw [beq_eq_false_iff_ne]; exact h0
        have HT : Hid (aftB m e = true) := Lib.hid (by rw [aftB, h1, h2, hy0, hyn]; rfl)
        have HY := Lib.hid hy0
        obtain ⟨g, hg⟩ : ∃ g, divI m e = g := ⟨_, rfl⟩
        have hg1 : 1 ≤ g := by rw [← hg]; exact divI_pos m e
        have hgn : (g == 0) = false := by rw [beq_eq_false_iff_ne]; omega
        have hgz : ¬ (g = 0) := by omega
        have HD := Lib.hid hg
        have HZ := Lib.hid (aft_len m e)
        clear hy0 h0 hg
        obtain ⟨i0, hi, hz0, hz1, hz2⟩ := info_parts Try_intinfo
        go_enter Try.func31, Try.ntmps31
        go_wp2_with fail
        refine (specMeasureOk_any _ _ _ (HV.out _ (Below.refl _ _))).mono ?_
        rintro r w' ⟨rfl, rfl⟩
        rw [h1]
        go_wp2_with fail
        refine (specEventOk_any _ _ _).mono ?_
        rintro r w' ⟨rfl, rfl⟩
        rw [h2]
        clear h1 h2
        go_wp2_with fail
        refine (l4On_any _ _ m e (HV.out _ (Below.refl _ _)) HM.out e1 e2).mono ?_
        rintro r w1 ⟨rfl, b3⟩
        rw [HY.out]
        have HB := Lib.hid b3
        have HVW : Hid (∀ wr, Below w1.heap.size w1 wr → IRd wr (.slice A m.length c) m) := Lib.hid (fun wr h => HV.out _ (below_step b3 h b3.size))
        have H0 : Hid (AppRel w1 (aftL m e) 0 (.slice (some ⟨w1.heap.size, 0, none⟩) 0 0) (w1.alloc (.cells #[] 3))) := Lib.hid (app_start w1 _)
        clear b3 HV
        have HV := HVW
        clear HVW
        go_wp2_with fail
        clear hyn
        go_loopw [6, 7] (fun q i wr => ∃ k : Nat, i = .int .i64 (k : Int) ∧ k ≤ m.length ∧ Hid (AppRel w1 (aftL m e) k q wr)) (fun _ i _ => m.length - (intOf i).toNat)
        case atStart => exact ⟨0, rfl, Nat.zero_le _, H0⟩
        case round =>
          obtain ⟨k, rfl, hk, HF⟩ := hrel
          clear H0
          by_cases hlt : k < m.length
          · have hlt' : (k : Int) < (m.length : Int) := by omega
            have hk0 : (0 : Int) ≤ (k : Int) := by omega
            obtain ⟨G, off, x, rfl, -, hx, hcx0⟩ := (HV.out wr HF.out.2).at_ hlt
            obtain ⟨x1, x2⟩ := HM.out.1 x (List.mem_of_getElem? hx)
            obtain ⟨u, htb, hub, u0, u1⟩ := bit_tmod8 (e := e) e1 k
            obtain ⟨n, hn⟩ : ∃ n, u * x = n := ⟨_, rfl⟩
            have hnb : 0 ≤ n ∧ n ≤ 36 := by
              obtain rfl | rfl : u = 0 ∨ u = 1 := by omega
              · omega
              · omega
            obtain ⟨y, hy⟩ : ∃ y, n / g = y := ⟨_, rfl⟩
            have hyb : 0 ≤ y ∧ y ≤ 36 := by rw [← hy]; exact ⟨Int.ediv_nonneg hnb.1 (by omega), Int.le_trans (Int.ediv_le_self g hnb.1) hnb.2⟩
            have HS : Hid ((aftL m e)[k]? = some y) := Lib.hid (by rw [aft_at hlt, aftI, getD_at hx, hub, hn, HD.out, hy])
            have hw1 : IntKind.i64.wrap (u * x) = n := by rw [hn]; exact IntWalk.i64_in _ (by omega)
            have hq : n.tdiv g = y := by rw [Int.tdiv_eq_ediv_of_nonneg hnb.1]; exact hy
            have hwy : wrap64 y = y := IntWalk.wrap64_in _ (by omega)
            have hwy2 : IntKind.i64.wrap y = y := IntWalk.i64_in _ (by omega)
            have HCC : Hid (∀ w', Below w1.heap.size w1 w' → w'.cell? ⟨G, off + k, none⟩ = some (.int .i64 x)) := Lib.hid (fun w' hb' => IRd.cellk (HV.out w' hb') hx)
            have BD : Below w1.heap.size w1 wr.drew := HF.out.2.drew
            have hcx := HCC.out wr.drew BD
            clear hx hub hn hy hcx0
            go_wp2_with fail
            refine wp_region_held_drew (S := fun w' => w'.cell? ⟨G, off + k, none⟩ = some (.int .i64 x)) (by kernel_rfl) hcx (fun hHeld => ?_)
            refine take_in (i := 0) (v := ?_) rfl (by kernel_rfl) (fun _ _ _ h => h) rfl ?_ hHeld ?_
            rotate_left
            · intro w hSw; go_simp; all_goals with_reducible rfl
            try simp only [Act.put, List.setIfInBounds_toArray, List.set_cons_zero, List.set_cons_succ]
            refine take_in (i := 1) (v := ?_) rfl (by kernel_rfl) (fun _ _ _ h => h) rfl ?_ hHeld ?_
            rotate_left
            · intro w hSw; go_simp; all_goals with_reducible rfl
            try simp only [Act.put, List.setIfInBounds_toArray, List.set_cons_zero, List.set_cons_succ]
            refine take_in (i := 2) (v := ?_) rfl (by kernel_rfl) (fun _ _ _ h => h) rfl ?_ hHeld ?_
            rotate_left
            · intro w hSw; go_simp; all_goals with_reducible rfl
            try simp only [Act.put, List.setIfInBounds_toArray, List.set_cons_zero, List.set_cons_succ]
            refine take_in (i := 3) (v := ?_) rfl (by kernel_rfl) (fun _ _ _ h => h) rfl ?_ hHeld ?_
            rotate_left
            · intro w hSw; go_simp; all_goals with_reducible rfl
            try simp only [Act.put, List.setIfInBounds_toArray, List.set_cons_zero, List.set_cons_succ]
            refine take_in (i := 4) (v := ?_) rfl (by kernel_rfl) (fun _ _ _ h => h) rfl ?_ hHeld ?_
            rotate_left
            · intro w hSw; go_simp; all_goals with_reducible rfl
            try simp only [Act.put, List.setIfInBounds_toArray, List.set_cons_zero, List.set_cons_succ]
            refine take_in (i := 5) (v := ?_) rfl (by kernel_rfl) (fun _ _ _ h => h) rfl ?_ hHeld ?_
            rotate_left
            · intro w hSw; go_simp; all_goals with_reducible rfl
            try simp only [Act.put, List.setIfInBounds_toArray, List.set_cons_zero, List.set_cons_succ]
            refine take_in (i := 6) (v := ?_) rfl (by kernel_rfl) (fun _ _ _ h => h) rfl ?_ hHeld ?_
            rotate_left
            · intro w hSw; go_simp; all_goals with_reducible rfl
            try simp only [Act.put, List.setIfInBounds_toArray, List.set_cons_zero, List.set_cons_succ]
            refine take_in (i := 7) (v := ?_) rfl (by kernel_rfl) (fun _ _ _ h => h) rfl ?_ hHeld ?_
            rotate_left
            · intro w hSw; go_simp; all_goals with_reducible rfl
            try simp only [Act.put, List.setIfInBounds_toArray, List.set_cons_zero, List.set_cons_succ]
            refine take_in (i := 10) (v := ?_) rfl (by kernel_rfl) (fun _ _ _ h => h) rfl ?_ hHeld ?_
            rotate_left
            · intro w hSw; go_simp; all_goals with_reducible rfl
            try simp only [Act.put, List.setIfInBounds_toArray, List.set_cons_zero, List.set_cons_succ]
            refine take_in (i := 11) (v := ?_) rfl (by kernel_rfl) (fun _ _ _ h => h) rfl ?_ hHeld ?_
            rotate_left
            · intro w hSw; go_simp; all_goals with_reducible rfl
            try simp only [Act.put, List.setIfInBounds_toArray, List.set_cons_zero, List.set_cons_succ]
            refine ready_two (i := 8) (j := 12) rfl rfl (by kernel_rfl) (fun K hK => ?_) (fun K hK => ?_)
            · go_simp
              refine hK.out _ _ (hcx) (fun hHeld => ?_)
              clear hK K
              try simp only [Act.put, List.setIfInBounds_toArray, List.set_cons_zero, List.set_cons_succ]
              refine take_in (i := 9) (v := ?_) rfl (by kernel_rfl) (fun _ _ _ h => h) rfl ?_ hHeld ?_
              rotate_left
              · intro w hSw; go_simp; all_goals with_reducible rfl
              try simp only [Act.put, List.setIfInBounds_toArray, List.set_cons_zero, List.set_cons_succ]
              refine ready_one (i := 12) rfl (by kernel_rfl) (fun K hK => ?_)
              go_simp
              go_at_call 61
              refine (specDivisor_any wr.drew _ m e (HV.out _ BD) HM.out e1 e2).mono ?_
              rintro r w2 ⟨rfl, b2⟩
              rw [HD.out]
              have BW := below_step BD b2 BD.size
              have OW : IOwn w2 w1.heap.size u6 ((aftL m e).take k) := (show IOwn wr.drew w1.heap.size u6 ((aftL m e).take k) from HF.out.1).keep (SameAt.of_below b2)
              clear b2
              refine hK.out _ _ (HCC.out _ BW) (fun hHeld => ?_)
              clear hK K
              try simp only [Act.put, List.setIfInBounds_toArray, List.set_cons_zero, List.set_cons_succ]
              refine take_in (i := 13) (v := ?_) rfl (by kernel_rfl) (fun _ _ _ h => h) rfl ?_ hHeld ?_
              rotate_left
              · intro w hSw; go_simp; all_goals with_reducible rfl
              try simp only [Act.put, List.setIfInBounds_toArray, List.set_cons_zero, List.set_cons_succ]
              have BA : Below w1.heap.size w1 (w2.alloc (.cells #[.int .i64 y] 3)) := BW.alloc BW.size _
              refine ready_one (i := 14) rfl (by kernel_rfl) (fun K hK => ?_)
              go_simp
              refine hK.out _ (w2.alloc (.cells #[.int .i64 y] 3)) (HCC.out _ BA) (fun hHeld => ?_)
              clear hK K
              try simp only [Act.put, List.setIfInBounds_toArray, List.set_cons_zero, List.set_cons_succ]
              have rk := World.ownsRow.alloc (w := w2) (show w2.ownsRow w1.heap.size 3 1 u6 _ (((aftL m e).take k).map (Value.int .i64)) from OW) (.cells #[.int .i64 y] 3)
              have hkl : ((aftL m e).take k).length = k := by rw [List.length_take, HZ.out]; omega
              rw [hkl] at rk
              refine ready_one (i := 15) rfl (by kernel_rfl) (fun K hK => ?_)
              obtain ⟨v5, w5, rn5, o5, g5, -, -⟩ := run_append_own_at (P := Try.prog) _ w1.heap.size 23 23 3 i0 (.int .i64 0) 1 8 Try.underlying23 hi hz0 hz1 hz2 rfl (by decide) u6 k _ rk ⟨w2.heap.size, 0, none⟩ 1 1 [.int .i64 y] rfl (one_new w2 _ _) one_int (by unfold maxLen; omega) (by omega) BA.size
              refine step_append (s := .tmp 32) (x := .tmp 46) rfl rfl rn5 ?_
              have B5 : Below w1.heap.size w1 w5 := BA.grown g5 BA.size (fun g hg => (World.ownsRow.lt rk g hg).1)
              have HF5 : Hid (AppRel w1 (aftL m e) (k + 1) v5 w5) := Lib.hid ⟨by
                rw [List.take_add_one, HS.out]
                show w5.ownsRow w1.heap.size 3 1 v5 _ _
                rw [List.length_append, hkl, List.map_append]
                exact o5, B5⟩
              refine hK.out _ w5 (HCC.out _ B5) (fun hHeld => ?_)
              clear hK K rk o5 g5 rn5 hkl
              try simp only [Act.put, List.setIfInBounds_toArray, List.set_cons_zero, List.set_cons_succ]
              refine take_in (i := 16) (v := ?_) rfl (by kernel_rfl) (fun _ _ _ h => h) rfl ?_ hHeld ?_
              rotate_left
              · intro w hSw; go_simp; all_goals with_reducible rfl
              try simp only [Act.put, List.setIfInBounds_toArray, List.set_cons_zero, List.set_cons_succ]
              refine wpAnyH_done (by kernel_rfl) ?_ _
              clear BA B5 hcx
              go_wp2_with fail
              go_roundw
              case rel => exact ⟨k + 1, by go_num, by omega, HF5⟩
              case measure => simp [intOf]; omega
            · go_simp
              go_at_call 61
              refine (specDivisor_any wr.drew _ m e (HV.out _ BD) HM.out e1 e2).mono ?_
              rintro r w2 ⟨rfl, b2⟩
              rw [HD.out]
              have BW := below_step BD b2 BD.size
              have OW : IOwn w2 w1.heap.size u6 ((aftL m e).take k) := (show IOwn wr.drew w1.heap.size u6 ((aftL m e).take k) from HF.out.1).keep (SameAt.of_below b2)
              clear b2
              refine hK.out _ _ (HCC.out _ BW) (fun hHeld => ?_)
              clear hK K
              try simp only [Act.put, List.setIfInBounds_toArray, List.set_cons_zero, List.set_cons_succ]
              have hcx2 := HCC.out _ BW
              refine ready_one (i := 8) rfl (by kernel_rfl) (fun K hK => ?_)
              go_simp
              refine hK.out _ _ (hcx2) (fun hHeld => ?_)
              clear hK K
              try simp only [Act.put, List.setIfInBounds_toArray, List.set_cons_zero, List.set_cons_succ]
              refine take_in (i := 9) (v := ?_) rfl (by kernel_rfl) (fun _ _ _ h => h) rfl ?_ hHeld ?_
              rotate_left
              · intro w hSw; go_simp; all_goals with_reducible rfl
              try simp only [Act.put, List.setIfInBounds_toArray, List.set_cons_zero, List.set_cons_succ]
              refine take_in (i := 13) (v := ?_) rfl (by kernel_rfl) (fun _ _ _ h => h) rfl ?_ hHeld ?_
              rotate_left
              · intro w hSw; go_simp; all_goals with_reducible rfl
              try simp only [Act.put, List.setIfInBounds_toArray, List.set_cons_zero, List.set_cons_succ]
              have BA : Below w1.heap.size w1 (w2.alloc (.cells #[.int .i64 y] 3)) := BW.alloc BW.size _
              refine ready_one (i := 14) rfl (by kernel_rfl) (fun K hK => ?_)
              go_simp
              refine hK.out _ (w2.alloc (.cells #[.int .i64 y] 3)) (HCC.out _ BA) (fun hHeld => ?_)
              clear hK K
              try simp only [Act.put, List.setIfInBounds_toArray, List.set_cons_zero, List.set_cons_succ]
              have rk := World.ownsRow.alloc (w := w2) (show w2.ownsRow w1.heap.size 3 1 u6 _ (((aftL m e).take k).map (Value.int .i64)) from OW) (.cells #[.int .i64 y] 3)
              have hkl : ((aftL m e).take k).length = k := by rw [List.length_take, HZ.out]; omega
              rw [hkl] at rk
              refine ready_one (i := 15) rfl (by kernel_rfl) (fun K hK => ?_)
              obtain ⟨v5, w5, rn5, o5, g5, -, -⟩ := run_append_own_at (P := Try.prog) _ w1.heap.size 23 23 3 i0 (.int .i64 0) 1 8 Try.underlying23 hi hz0 hz1 hz2 rfl (by decide) u6 k _ rk ⟨w2.heap.size, 0, none⟩ 1 1 [.int .i64 y] rfl (one_new w2 _ _) one_int (by unfold maxLen; omega) (by omega) BA.size
              refine step_append (s := .tmp 32) (x := .tmp 46) rfl rfl rn5 ?_
              have B5 : Below w1.heap.size w1 w5 := BA.grown g5 BA.size (fun g hg => (World.ownsRow.lt rk g hg).1)
              have HF5 : Hid (AppRel w1 (aftL m e) (k + 1) v5 w5) := Lib.hid ⟨by
                rw [List.take_add_one, HS.out]
                show w5.ownsRow w1.heap.size 3 1 v5 _ _
                rw [List.length_append, hkl, List.map_append]
                exact o5, B5⟩
              refine hK.out _ w5 (HCC.out _ B5) (fun hHeld => ?_)
              clear hK K rk o5 g5 rn5 hkl
              try simp only [Act.put, List.setIfInBounds_toArray, List.set_cons_zero, List.set_cons_succ]
              refine take_in (i := 16) (v := ?_) rfl (by kernel_rfl) (fun _ _ _ h => h) rfl ?_ hHeld ?_
              rotate_left
              · intro w hSw; go_simp; all_goals with_reducible rfl
              try simp only [Act.put, List.setIfInBounds_toArray, List.set_cons_zero, List.set_cons_succ]
              refine wpAnyH_done (by kernel_rfl) ?_ _
              clear BA B5 hcx hcx2
              go_wp2_with fail
              go_roundw
              case rel => exact ⟨k + 1, by go_num, by omega, HF5⟩
              case measure => simp [intOf]; omega
          · have hge : (m.length : Int) ≤ (k : Int) := by omega
            obtain ⟨o1, b1'⟩ := HF.out.all (by rw [HZ.out]; omega)
            have B1 := Lib.hid (below_step HB.out b1' HB.out.size)
            have O1 := Lib.hid (o1.base HB.out.size)
            clear b1' o1
            go_wp2_with fail
            go_ret2
            exact rowOk_ret HT.out (aftR_yes HT.out) O1.out B1.out
    · have HN : Hid (aftB m e = false) := Lib.hid (by rw [aftB, h1, h2]; rfl)
      go_enter Try.func31, Try.ntmps31
      go_wp2_with fail
      refine (specMeasureOk_any _ _ _ (HV.out _ (Below.refl _ _))).mono ?_
      rintro r w' ⟨rfl, rfl⟩
      rw [h1]
      go_wp2_with fail
      refine (specEventOk_any _ _ _).mono ?_
      rintro r w' ⟨rfl, rfl⟩
      rw [h2]
      go_wp2_with fail
      go_ret2
      exact rowOk_ret HN.out (aftR_no HN.out) (lit_own _ _ (Nat.le_refl _)) ((Below.refl _ _).alloc (Nat.le_refl _) _)
  · have HN : Hid (aftB m e = false) := Lib.hid (by rw [aftB, h1]; rfl)
    go_enter Try.func31, Try.ntmps31
    go_wp2_with fail
    refine (specMeasureOk_any _ _ _ (HV.out _ (Below.refl _ _))).mono ?_
    rintro r w' ⟨rfl, rfl⟩
    rw [h1]
    go_wp2_with fail
    go_ret2
    exact rowOk_ret HN.out (aftR_no HN.out) (lit_own _ _ (Nat.le_refl _)) ((Below.refl _ _).alloc (Nat.le_refl _) _)

end Go.Proofs.Ytghmgnhiglmifaa
