/- Contracts of spec's LearnedFrom, BelievedOf, LearnedAll. Conditions: rows that read. (gen_hd.py) -/
import Derived.Test.YtbjmhbkpeglpkaaHc
import Derived.Test.YtbjmhbkpeglpkaaFd
namespace Go.Proofs.Ytbjmhbkpeglpkaa
open Go.RowKit
set_option linter.unusedVariables false

/-- weights, and not many worlds -/
def Wg12 (m : List Int) : Prop := (∀ x ∈ m, 0 ≤ x ∧ x ≤ 1000000) ∧ m.length ≤ 4

theorem wg12_of {m : List Int} (h : wgtB m = true) : Wg12 m := ⟨((wgtB_iff m).1 h).1, ((wgtB_iff m).1 h).2.1.2⟩

theorem wg12_on {m : List Int} (h : Wg12 m) (e : Int) (k : Nat) : 0 ≤ onI (m.take k) e ∧ onI (m.take k) e ≤ 4000000 := by
  have h1 := onI_bound (m := m.take k) (fun x hx => (h.1 x (List.mem_of_mem_take hx)).1) e
  have h2 := sum_le12 (w := m.take k) (B := 1000000) (fun y hy => (h.1 y (List.mem_of_mem_take hy)).2)
  have h3 : (m.take k).length ≤ 4 := by simp; have := h.2; omega
  omega

theorem wg12_sum {m : List Int} (h : Wg12 m) (k : Nat) : 0 ≤ (m.take k).sum ∧ (m.take k).sum ≤ 4000000 := by
  have h1 := sum_nonneg12 (w := m.take k) (fun y hy => (h.1 y (List.mem_of_mem_take hy)).1)
  have h2 := sum_le12 (w := m.take k) (B := 1000000) (fun y hy => (h.1 y (List.mem_of_mem_take hy)).2)
  have h3 : (m.take k).length ≤ 4 := by simp; have := h.2; omega
  omega

set_option maxHeartbeats 2000000 in
theorem l4On12_any (w : World) (v : Value) (m : List Int) (e : Int) (hv : IRd w v m) (hm : Wg12 m) (e1 : 0 ≤ e) (e2 : e ≤ 15) :
    Calls Try.prog 68 #[v, .int .i64 e] w (IntPost (onI m e) w) := by
  obtain ⟨A, c, rfl, hl, hmx, -⟩ := id hv
  have HV := Lib.hid hv
  have HM := Lib.hid hm
  have hm4 := hm.2
  clear hv hm
  go_enter Try.func68, Try.ntmps68
  go_wp2_with fail
  go_loopw [5, 6] (fun t i wr => ∃ (k : Nat) (n : Int), i = .int .i64 (k : Int) ∧ k ≤ m.length ∧ t = .int .i64 n ∧ Hid (n = onI (m.take k) e) ∧ Hid (Below w.heap.size w wr)) (fun _ i _ => m.length - (intOf i).toNat)
  case atStart => exact ⟨0, 0, rfl, Nat.zero_le _, rfl, Lib.hid (by simp [onI]), Lib.hid (Below.refl _ _)⟩
  case round =>
    obtain ⟨k, n, rfl, hk, rfl, HN, HB⟩ := hrel
    by_cases hlt : k < m.length
    · obtain ⟨b, off, x, rfl, -, hx, hcx⟩ := (HV.out.keep (SameAt.of_below HB.out)).at_ hlt
      have HX := Lib.hid (onI_take hx e)
      obtain ⟨x1, x2⟩ := HM.out.1 x (List.mem_of_getElem? hx)
      obtain ⟨n1, n2⟩ : 0 ≤ n ∧ n ≤ 4000000 := by rw [HN.out]; exact wg12_on HM.out e k
      clear hx
      obtain rfl | rfl | rfl | rfl : k = 0 ∨ k = 1 ∨ k = 2 ∨ k = 3 := by omega
      · rw [Nat.add_zero] at hcx
        rcases bitI_01 e 0 with hb | hb
        · have HBit := Lib.hid hb
          have hb' : e % 2 = 0 := by simpa [bitI] using hb
          clear hb
          go_wp2_with fail
          go_region
          all_goals
            go_wp2_with fail
            go_roundw
            case rel => exact ⟨0 + 1, n, by first | rfl | go_num, by omega, rfl, Lib.hid (by rw [HX.out, HBit.out, ← HN.out]; simp), Lib.hid HB.out.drew⟩
            case measure => simp [intOf]; omega
        · have HBit := Lib.hid hb
          have hb' : e % 2 = 1 := by simpa [bitI] using hb
          clear hb
          go_wp2_with fail
          go_region
          all_goals
            go_wp2_with fail
            go_roundw
            case rel => exact ⟨0 + 1, n + x, by first | rfl | go_num, by omega, rfl, Lib.hid (by rw [HX.out, HBit.out, ← HN.out]; simp), Lib.hid HB.out.drew⟩
            case measure => simp [intOf]; omega
      · rcases bitI_01 e 1 with hb | hb
        · have HBit := Lib.hid hb
          have hb' : e / 2 % 2 = 0 := by simpa [bitI] using hb
          clear hb
          go_wp2_with fail
          go_region
          all_goals
            go_wp2_with fail
            go_roundw
            case rel => exact ⟨1 + 1, n, by first | rfl | go_num, by omega, rfl, Lib.hid (by rw [HX.out, HBit.out, ← HN.out]; simp), Lib.hid HB.out.drew⟩
            case measure => simp [intOf]; omega
        · have HBit := Lib.hid hb
          have hb' : e / 2 % 2 = 1 := by simpa [bitI] using hb
          clear hb
          go_wp2_with fail
          go_region
          all_goals
            go_wp2_with fail
            go_roundw
            case rel => exact ⟨1 + 1, n + x, by first | rfl | go_num, by omega, rfl, Lib.hid (by rw [HX.out, HBit.out, ← HN.out]; simp), Lib.hid HB.out.drew⟩
            case measure => simp [intOf]; omega
      · rcases bitI_01 e 2 with hb | hb
        · have HBit := Lib.hid hb
          have hb' : e / 4 % 2 = 0 := by simpa [bitI] using hb
          clear hb
          go_wp2_with fail
          go_region
          all_goals
            go_wp2_with fail
            go_roundw
            case rel => exact ⟨2 + 1, n, by first | rfl | go_num, by omega, rfl, Lib.hid (by rw [HX.out, HBit.out, ← HN.out]; simp), Lib.hid HB.out.drew⟩
            case measure => simp [intOf]; omega
        · have HBit := Lib.hid hb
          have hb' : e / 4 % 2 = 1 := by simpa [bitI] using hb
          clear hb
          go_wp2_with fail
          go_region
          all_goals
            go_wp2_with fail
            go_roundw
            case rel => exact ⟨2 + 1, n + x, by first | rfl | go_num, by omega, rfl, Lib.hid (by rw [HX.out, HBit.out, ← HN.out]; simp), Lib.hid HB.out.drew⟩
            case measure => simp [intOf]; omega
      · rcases bitI_01 e 3 with hb | hb
        · have HBit := Lib.hid hb
          have hb' : e / 8 % 2 = 0 := by simpa [bitI] using hb
          clear hb
          go_wp2_with fail
          go_region
          all_goals
            go_wp2_with fail
            go_roundw
            case rel => exact ⟨3 + 1, n, by first | rfl | go_num, by omega, rfl, Lib.hid (by rw [HX.out, HBit.out, ← HN.out]; simp), Lib.hid HB.out.drew⟩
            case measure => simp [intOf]; omega
        · have HBit := Lib.hid hb
          have hb' : e / 8 % 2 = 1 := by simpa [bitI] using hb
          clear hb
          go_wp2_with fail
          go_region
          all_goals
            go_wp2_with fail
            go_roundw
            case rel => exact ⟨3 + 1, n + x, by first | rfl | go_num, by omega, rfl, Lib.hid (by rw [HX.out, HBit.out, ← HN.out]; simp), Lib.hid HB.out.drew⟩
            case measure => simp [intOf]; omega
    · go_wp2_with fail
      go_ret
      exact ⟨ret_int (by rw [HN.out, List.take_of_length_le (by omega)]), HB.out⟩

theorem lrn_no {w row : List Int} (h : lrnB w row = false) : lrnR w row = [] := by rw [lrnR, h]; rfl

set_option maxRecDepth 100000 in
set_option maxHeartbeats 8000000 in
theorem specLearnedFrom_any (w : World) (v u : Value) (xs rs : List Int) (hv : IRd w v xs) (hu : IRd w u rs) :
    Calls Try.prog 30 #[v, u] w (RowOk w.heap.size (lrnR xs rs) (lrnB xs rs) w) := by
  obtain ⟨A, c, rfl, hl, hmx, -⟩ := id hv
  obtain ⟨A', c', rfl, hl', hmx', -⟩ := id hu
  have HV : Hid (∀ wr, Below w.heap.size w wr → IRd wr (.slice A xs.length c) xs) := Lib.hid (fun wr hb => hv.keep (SameAt.of_below hb))
  have HU : Hid (∀ wr, Below w.heap.size w wr → IRd wr (.slice A' rs.length c') rs) := Lib.hid (fun wr hb => hu.keep (SameAt.of_below hb))
  clear hv hu
  rcases Bool.eq_false_or_eq_true (wgtB xs) with h | h
  · rcases Bool.eq_false_or_eq_true (eviB (xs.length : Int) rs) with h2 | h2
    · have hl4 := ((wgtB_iff xs).1 h).2.1.2
      have HB := Lib.hid ((wgtB_iff xs).1 h).1
      have HE := Lib.hid ((eviB_iff _ rs).1 h2).1
      have hlr : rs.length = xs.length := by have := ((eviB_iff _ rs).1 h2).2.2; omega
      have HLR := Lib.hid hlr
      have HPB : Hid (lrnB xs rs = wgtB (prodL xs rs)) := Lib.hid (by rw [lrnB, h, h2, Bool.true_and, Bool.true_and])
      have HZ := Lib.hid (prod_len hlr)
      have D0 := Lib.hid (ARel12.start w (prodL xs rs))
      clear hlr
      go_enter Try.func30, Try.ntmps30
      go_wp2_with fail
      refine (specWeightsOk_any w _ xs (HV.out w (Below.refl _ _))).mono ?_
      rintro r w' ⟨rfl, rfl⟩
      rw [h]
      go_wp2_with fail
      refine (specEvidenceOk_any w _ _ rs (HU.out w (Below.refl _ _))).mono ?_
      rintro r w' ⟨rfl, rfl⟩
      rw [h2]
      clear h h2
      go_wp2_with fail
      go_loopw [6, 7] (fun p i wr => ∃ (k g1 c1 : Nat), p = .slice (some ⟨g1, 0, none⟩) k c1 ∧ i = .int .i64 (k : Int) ∧ k ≤ xs.length ∧ Hid (ARel12 w (prodL xs rs) k (.slice (some ⟨g1, 0, none⟩) k c1) wr)) (fun _ i _ => xs.length - (intOf i).toNat)
      case atStart => exact ⟨0, w.heap.size, 0, rfl, rfl, Nat.zero_le _, D0⟩
      case round =>
        obtain ⟨k, g1, c1, rfl, rfl, hk, HF⟩ := hrel
        clear D0
        by_cases hlt : k < xs.length
        · have hlt' : (k : Int) < (xs.length : Int) := by omega
          have hk0 : (0 : Int) ≤ (k : Int) := by omega
          have hltr : k < rs.length := by have := HLR.out; omega
          have hltr' : (k : Int) < (rs.length : Int) := by omega
          obtain ⟨b, off, x, rfl, -, hx, -⟩ := (HV.out wr HF.out.2).at_ hlt
          obtain ⟨b2, off2, z, rfl, -, hz, -⟩ := (HU.out wr HF.out.2).at_ hltr
          have HC : Hid (∀ w', Below w.heap.size w w' → w'.cell? ⟨b, off + k, none⟩ = some (.int .i64 x)) := Lib.hid (fun w' hb => by
            obtain ⟨b', off', x', e, -, hx', hc⟩ := (HV.out w' hb).at_ hlt
            injection e with e
            injection e with e1 e2
            subst e1; subst e2
            rw [hx] at hx'
            obtain rfl := Option.some.inj hx'
            exact hc)
          have HC2 : Hid (∀ w', Below w.heap.size w w' → w'.cell? ⟨b2, off2 + k, none⟩ = some (.int .i64 z)) := Lib.hid (fun w' hb => by
            obtain ⟨b', off', x', e, -, hx', hc⟩ := (HU.out w' hb).at_ hltr
            injection e with e
            injection e with e1 e2
            subst e1; subst e2
            rw [hz] at hx'
            obtain rfl := Option.some.inj hx'
            exact hc)
          have hxb := HB.out x (List.mem_of_getElem? hx)
          have hzb := HE.out z (List.mem_of_getElem? hz)
          obtain ⟨y, hy⟩ : ∃ y, x * z = y := ⟨_, rfl⟩
          have hyb : 0 ≤ y ∧ y ≤ 1000000 * 9 := by rw [← hy]; exact ⟨Int.mul_nonneg hxb.1 hzb.1, Int.mul_le_mul hxb.2 hzb.2 hzb.1 (by decide)⟩
          have HS : Hid ((prodL xs rs)[k]? = some y) := Lib.hid (by rw [prod_at hx hz, hy])
          have HLK : Hid (((prodL xs rs).take k).length = k) := Lib.hid (by rw [List.length_take, HZ.out]; omega)
          have hw2 : IntKind.i64.wrap (x * z) = y := by rw [hy]; exact IntWalk.i64_in _ (by omega)
          clear hx hz hy hyb hxb hzb
          go_wp2_with fail
          have k0 : Below w.heap.size w wr.drew := HF.out.2.drew
          refine wp_region_held_drew (S := fun w' => Below w.heap.size w w') (by kernel_rfl) k0 (fun hHeld => ?_)
          refine take_in (i := 0) (v := ?_) rfl (by kernel_rfl) (fun _ _ _ h => h) rfl ?_ hHeld ?_
          rotate_left
          · intro w' hSw; go_simp; all_goals with_reducible rfl
          try simp only [Act.put, List.setIfInBounds_toArray, List.set_cons_zero, List.set_cons_succ]
          refine take_in (i := 1) (v := ?_) rfl (by kernel_rfl) (fun _ _ _ h => h) rfl ?_ hHeld ?_
          rotate_left
          · intro w' hSw; go_simp; all_goals with_reducible rfl
          try simp only [Act.put, List.setIfInBounds_toArray, List.set_cons_zero, List.set_cons_succ]
          refine take_in (i := 2) (v := ?_) rfl (by kernel_rfl) (fun _ _ _ h => h) rfl ?_ hHeld ?_
          rotate_left
          · intro w' hSw; go_simp; all_goals with_reducible rfl
          try simp only [Act.put, List.setIfInBounds_toArray, List.set_cons_zero, List.set_cons_succ]
          refine take_in (i := 3) (v := ?_) rfl (by kernel_rfl) (fun _ _ _ h => h) rfl ?_ hHeld ?_
          rotate_left
          · intro w' hSw; go_simp; all_goals with_reducible rfl
          try simp only [Act.put, List.setIfInBounds_toArray, List.set_cons_zero, List.set_cons_succ]
          refine take_in (i := 4) (v := ?_) rfl (by kernel_rfl) (fun _ _ _ h => h) rfl ?_ hHeld ?_
          rotate_left
          · intro w' hSw; have d0 := HC.out w' hSw; go_simp; all_goals with_reducible rfl
          try simp only [Act.put, List.setIfInBounds_toArray, List.set_cons_zero, List.set_cons_succ]
          refine take_in (i := 5) (v := ?_) rfl (by kernel_rfl) (fun _ _ _ h => h) rfl ?_ hHeld ?_
          rotate_left
          · intro w' hSw; go_simp; all_goals with_reducible rfl
          try simp only [Act.put, List.setIfInBounds_toArray, List.set_cons_zero, List.set_cons_succ]
          refine take_in (i := 6) (v := ?_) rfl (by kernel_rfl) (fun _ _ _ h => h) rfl ?_ hHeld ?_
          rotate_left
          · intro w' hSw; go_simp; all_goals with_reducible rfl
          try simp only [Act.put, List.setIfInBounds_toArray, List.set_cons_zero, List.set_cons_succ]
          refine take_in (i := 7) (v := ?_) rfl (by kernel_rfl) (fun _ _ _ h => h) rfl ?_ hHeld ?_
          rotate_left
          · intro w' hSw; go_simp; all_goals with_reducible rfl
          try simp only [Act.put, List.setIfInBounds_toArray, List.set_cons_zero, List.set_cons_succ]
          refine take_in (i := 8) (v := ?_) rfl (by kernel_rfl) (fun _ _ _ h => h) rfl ?_ hHeld ?_
          rotate_left
          · intro w' hSw; have d0 := HC2.out w' hSw; go_simp; all_goals with_reducible rfl
          try simp only [Act.put, List.setIfInBounds_toArray, List.set_cons_zero, List.set_cons_succ]
          refine take_in (i := 9) (v := ?_) rfl (by kernel_rfl) (fun _ _ _ h => h) rfl ?_ hHeld ?_
          rotate_left
          · intro w' hSw; go_simp; all_goals with_reducible rfl
          try simp only [Act.put, List.setIfInBounds_toArray, List.set_cons_zero, List.set_cons_succ]
          refine ready_one (i := 10) rfl (by kernel_rfl) (fun K hK => ?_)
          go_simp
          have k2 : Below w.heap.size w (wr.drew.alloc (.cells #[.int .i64 y] 3)) := k0.alloc k0.size _
          refine hK.out _ (wr.drew.alloc (.cells #[.int .i64 y] 3)) k2 (fun hHeld => ?_)
          clear hK K
          try simp only [Act.put, List.setIfInBounds_toArray, List.set_cons_zero, List.set_cons_succ]
          refine ready_one (i := 11) rfl (by kernel_rfl) (fun K hK => ?_)
          obtain ⟨g9, c9, x9, r9, o9, q9⟩ := run_app12 wr.drew w.heap.size _ _ k HLK.out y (show IOwn wr.drew w.heap.size _ _ from HF.out.1) (by omega) k0.size
          refine step_append (s := .tmp 26) (x := .tmp 36) rfl rfl r9 ?_
          have k9 : Below w.heap.size w x9 := k0.grown q9 k0.size (fun g' hg' => (IOwn.ge (show IOwn wr.drew w.heap.size _ _ from HF.out.1) g' hg').1)
          have HF9 : Hid (ARel12 w (prodL xs rs) (k + 1) (.slice (some ⟨g9, 0, none⟩) (k + 1) c9) x9) := Lib.hid ⟨by rw [List.take_add_one, HS.out]; exact o9, k9⟩
          refine hK.out _ x9 k9 (fun hHeld => ?_)
          clear hK K
          try simp only [Act.put, List.setIfInBounds_toArray, List.set_cons_zero, List.set_cons_succ]
          refine take_in (i := 12) (v := ?_) rfl (by kernel_rfl) (fun _ _ _ h => h) rfl ?_ hHeld ?_
          rotate_left
          · intro w' hSw; go_simp; all_goals with_reducible rfl
          try simp only [Act.put, List.setIfInBounds_toArray, List.set_cons_zero, List.set_cons_succ]
          refine wpAnyH_done (by kernel_rfl) ?_ _
          clear k0 k2 k9 o9 q9 r9
          go_wp2_with fail
          go_roundw
          case rel => exact ⟨k + 1, g9, c9, rfl, by go_num, by omega, HF9⟩
          case measure => simp [intOf]; omega
        · obtain rfl : k = xs.length := by omega
          have hlt' : decide ((xs.length : Int) < (xs.length : Int)) = false := by simp
          have HOUT : Hid (IOwn wr w.heap.size (.slice (some ⟨g1, 0, none⟩) xs.length c1) (prodL xs rs)) := Lib.hid (by have := HF.out.1; rwa [List.take_of_length_le (by rw [HZ.out]; exact Nat.le_refl _)] at this)
          have HBW := Lib.hid HF.out.2
          clear HF
          rcases Bool.eq_false_or_eq_true (wgtB (prodL xs rs)) with h3 | h3
          · have HT : Hid (lrnB xs rs = true) := Lib.hid (by rw [HPB.out, h3])
            have HR : Hid (lrnR xs rs = redR (prodL xs rs)) := Lib.hid (by rw [lrnR, if_pos HT.out, redR, if_pos h3])
            go_wp2_with fail
            refine (specWeightsOk_any wr _ _ HOUT.out.rd).mono ?_
            rintro r w' ⟨rfl, rfl⟩
            rw [h3]
            go_wp2_with fail
            refine (specReducedWeights_any wr _ _ HOUT.out.rd).mono ?_
            rintro r w3 ⟨vo, rfl, oo, bo⟩
            go_wp2_with fail
            go_ret2
            exact rowOk_ret HT.out HR.out (oo.base HBW.out.size) (below_step HBW.out bo HBW.out.size)
          · have HT : Hid (lrnB xs rs = false) := Lib.hid (by rw [HPB.out, h3])
            have HR := Lib.hid (lrn_no HT.out)
            go_wp2_with fail
            refine (specWeightsOk_any wr _ _ HOUT.out.rd).mono ?_
            rintro r w' ⟨rfl, rfl⟩
            rw [h3]
            go_wp2_with fail
            go_ret2
            exact rowOk_ret HT.out HR.out (lit12 wr _ HBW.out.size) (HBW.out.alloc HBW.out.size _)
    · have HT : Hid (lrnB xs rs = false) := Lib.hid (by rw [lrnB, h, h2]; rfl)
      have HR := Lib.hid (lrn_no HT.out)
      go_enter Try.func30, Try.ntmps30
      go_wp2_with fail
      refine (specWeightsOk_any w _ xs (HV.out w (Below.refl _ _))).mono ?_
      rintro r w' ⟨rfl, rfl⟩
      rw [h]
      go_wp2_with fail
      refine (specEvidenceOk_any w _ _ rs (HU.out w (Below.refl _ _))).mono ?_
      rintro r w' ⟨rfl, rfl⟩
      rw [h2]
      go_wp2_with fail
      go_ret2
      exact rowOk_ret HT.out HR.out (lit12 w _ (Nat.le_refl _)) (by go_grown)
  · have HT : Hid (lrnB xs rs = false) := Lib.hid (by rw [lrnB, h]; rfl)
    have HR := Lib.hid (lrn_no HT.out)
    go_enter Try.func30, Try.ntmps30
    go_wp2_with fail
    refine (specWeightsOk_any w _ xs (HV.out w (Below.refl _ _))).mono ?_
    rintro r w' ⟨rfl, rfl⟩
    rw [h]
    go_wp2_with fail
    go_ret2
    exact rowOk_ret HT.out HR.out (lit12 w _ (Nat.le_refl _)) (by go_grown)

set_option maxRecDepth 100000 in
set_option maxHeartbeats 8000000 in
theorem specBelievedOf_any (w : World) (v : Value) (xs : List Int) (e : Int) (hv : IRd w v xs) :
    Calls Try.prog 36 #[v, .int .i64 e] w (FracPost (belN xs e) (belD xs e) (belB xs e) w) := by
  obtain ⟨A, c, rfl, hl, hmx, -⟩ := id hv
  have HV : Hid (∀ wr, Below w.heap.size w wr → IRd wr (.slice A xs.length c) xs) := Lib.hid (fun wr hb => hv.keep (SameAt.of_below hb))
  clear hv
  rcases Bool.eq_false_or_eq_true (wgtB xs) with h | h
  · rcases Bool.eq_false_or_eq_true (evB (xs.length : Int) e) with h2 | h2
    · have hT : belB xs e = true := (belB_iff xs e).2 ⟨h, h2⟩
      have HT := Lib.hid hT
      have HG := Lib.hid (wg12_of h)
      have hl4 := (wg12_of h).2
      obtain ⟨e1, e2⟩ := evB_15 h2
      have hxb := wgt_on h e
      have hyb := wgt_sum h
      obtain ⟨x, hx⟩ : ∃ x, onI xs e = x := ⟨_, rfl⟩
      obtain ⟨y, hy⟩ : ∃ y, xs.sum = y := ⟨_, rfl⟩
      rw [hx, hy] at hxb
      rw [hy] at hyb
      obtain ⟨g, hg⟩ : ∃ g, gcI x y = g := ⟨_, rfl⟩
      have hg1 : 1 ≤ g := by rw [← hg]; exact gcI_pos x y
      have hgn : (g == 0) = false := by rw [beq_eq_false_iff_ne]; omega
      have HGV : Hid (belN xs e = x / g ∧ belD xs e = y / g) := Lib.hid ⟨by rw [belN, if_pos hT, hx, hy, hg], by rw [belD, if_pos hT, hx, hy, hg]⟩
      have hq1 : x.tdiv g = x / g := Int.tdiv_eq_ediv_of_nonneg hxb.1
      have hq2 : y.tdiv g = y / g := Int.tdiv_eq_ediv_of_nonneg (by omega)
      have hx1 : 0 ≤ x / g ∧ x / g ≤ 4000000 := ⟨Int.ediv_nonneg hxb.1 (by omega), Int.le_trans (Int.ediv_le_self g hxb.1) (by omega)⟩
      have hy1 : 0 ≤ y / g ∧ y / g ≤ 4000000 := ⟨Int.ediv_nonneg (by omega) (by omega), Int.le_trans (Int.ediv_le_self g (by omega)) hyb.2⟩
      have hw1 : wrap64 (x / g) = x / g := IntWalk.wrap64_in _ (by omega)
      have hw2 : wrap64 (y / g) = y / g := IntWalk.wrap64_in _ (by omega)
      have HW := Lib.hid (And.intro hw1 hw2)
      have HQ := Lib.hid (And.intro hq1 hq2)
      have HX := Lib.hid hx
      have HY := Lib.hid hy
      have HGC := Lib.hid hg
      clear hx hy hg hx1 hy1 hw1 hw2 hq1 hq2 hT
      go_enter Try.func36, Try.ntmps36
      go_wp2_with fail
      refine (specWeightsOk_any w _ xs (HV.out w (Below.refl _ _))).mono ?_
      rintro r w' ⟨rfl, rfl⟩
      rw [h]
      go_wp2_with fail
      refine (specEventOk_any _ _ _).mono ?_
      rintro r w' ⟨rfl, rfl⟩
      rw [h2]
      clear h h2
      go_wp2_with fail
      go_loop [7, 8] (fun s i => ∃ (k : Nat) (n : Int), i = .int .i64 (k : Int) ∧ s = .int .i64 n ∧ k ≤ xs.length ∧ 0 ≤ n ∧ n ≤ 4000000 ∧ Hid (n = (xs.take k).sum)) (fun _ i => xs.length - (intOf i).toNat)
      case atStart => exact ⟨0, 0, rfl, rfl, Nat.zero_le _, by omega, by omega, Lib.hid (by simp)⟩
      case round =>
        obtain ⟨k, n, rfl, rfl, hk, n0, n4, HN⟩ := hrel
        by_cases hlt : k < xs.length
        · have hlt' : (k : Int) < (xs.length : Int) := by omega
          obtain ⟨b, off, z, rfl, -, hz, hcz⟩ := (HV.out w (Below.refl _ _)).at_ hlt
          have hs := wg12_sum HG.out (k + 1)
          rw [List.take_add_one, hz, Option.toList_some, List.sum_append, ← HN.out, List.sum_singleton] at hs
          have HN2 : Hid (n + z = (xs.take (k + 1)).sum) := Lib.hid (by rw [List.take_add_one, hz, Option.toList_some, List.sum_append, ← HN.out, List.sum_singleton])
          have hw3 : IntKind.i64.wrap (n + z) = n + z := IntWalk.i64_in _ (by omega)
          clear hz
          go_wp2_with fail
          go_round
          case rel => exact ⟨k + 1, n + z, by go_num, rfl, by omega, hs.1, hs.2, HN2⟩
          case measure => simp [intOf]; omega
        · obtain rfl : k = xs.length := by omega
          have hlt' : decide ((xs.length : Int) < (xs.length : Int)) = false := by simp
          obtain rfl : n = y := by rw [HN.out, List.take_length]; exact HY.out
          clear HN
          go_wp2_with fail
          refine (l4On12_any w _ xs e (HV.out w (Below.refl _ _)) HG.out e1 e2).mono ?_
          rintro r w2 ⟨rfl, b2⟩
          rw [HX.out]
          have HB2 := Lib.hid b2
          clear b2
          go_wp2_with fail
          refine (specCommon12_any x n ⟨hxb.1, by omega⟩ ⟨by omega, by omega⟩ _).mono ?_
          rintro r w' ⟨rfl, rfl⟩
          rw [HGC.out]
          obtain ⟨hq1, hq2⟩ := HQ.out
          obtain ⟨hw1, hw2⟩ := HW.out
          go_wp2_with fail
          go_region
          all_goals
            go_wp2_with fail
            go_returns
            exact frac_ret (by first | exact HGV.out.1 | exact HGV.out.1.trans HW.out.1.symm) (by first | exact HGV.out.2 | exact HGV.out.2.trans HW.out.2.symm) HT.out HB2.out.drew
    · have HN : Hid (belB xs e = false) := Lib.hid (by rw [belB, h, h2]; rfl)
      go_enter Try.func36, Try.ntmps36
      go_wp2_with fail
      refine (specWeightsOk_any w _ xs (HV.out w (Below.refl _ _))).mono ?_
      rintro r w' ⟨rfl, rfl⟩
      rw [h]
      go_wp2_with fail
      refine (specEventOk_any _ _ _).mono ?_
      rintro r w' ⟨rfl, rfl⟩
      rw [h2]
      go_wp2_with fail
      go_returns
      exact frac_ret (bel_no HN.out).1 (bel_no HN.out).2 HN.out (Below.refl _ _)
  · have HN : Hid (belB xs e = false) := Lib.hid (by rw [belB, h]; rfl)
    go_enter Try.func36, Try.ntmps36
    go_wp2_with fail
    refine (specWeightsOk_any w _ xs (HV.out w (Below.refl _ _))).mono ?_
    rintro r w' ⟨rfl, rfl⟩
    rw [h]
    go_wp2_with fail
    go_returns
    exact frac_ret (bel_no HN.out).1 (bel_no HN.out).2 HN.out (Below.refl _ _)

end Go.Proofs.Ytbjmhbkpeglpkaa
