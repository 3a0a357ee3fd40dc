/- Contracts of spec's functions on tables: TableOk, TableOf, FirstFault, AdditiveOk, MeasureOf. Conditions: rows that read as lists. -/
import Derived.Test.YteljcicdibbhdaaUa
import Derived.Test.YteljcicdibbhdaaMe
import Derived.Test.YteljcicdibbhdaaQi
import Derived.Test.YteljcicdibbhdaaRh
import Derived.BigRegion
namespace Go.Proofs.Yteljcicdibbhdaa
open Go.RowKit
set_option linter.unusedVariables false

theorem all36_take {t : List Int} {k : Nat} {x : Int} (hx : t[k]? = some x) (h : inB x 0 36 = true) (ih : (t.take k).all (fun x => inB x 0 36) = true) : (t.take (k + 1)).all (fun x => inB x 0 36) = true := by
  rw [List.take_add_one, hx, List.all_append, ih]
  simp [h]

theorem all36_take_no {t : List Int} {k : Nat} {x : Int} (hx : t[k]? = some x) (h : inB x 0 36 = false) (n : Int) : tokB n t = false := by
  rw [← Bool.not_eq_true, tokB_iff]
  rintro ⟨-, -, h3⟩
  have := (inB_iff _ _ _).2 (h3 x (List.mem_of_getElem? hx))
  rw [h] at this; cases this

theorem tok_in {n : Int} {t : List Int} (h : inB n 1 4 = true) (ha : t.all (fun x => inB x 0 36) = true) : tokB n t = ((t.length : Int) == 2 ^ n.toNat) := by
  have hw : wokB n = true := by rw [wokB_iff]; exact (inB_iff _ _ _).1 h
  rw [tokB, hw, ha, Bool.true_and, Bool.and_true]
  rfl

theorem tok_out {n : Int} {t : List Int} (h : inB n 1 4 = false) : tokB n t = false := by
  have hw : wokB n = false := by
    rw [← Bool.not_eq_true, wokB_iff]
    intro h2
    rw [(inB_iff _ _ _).2 h2] at h; cases h
  rw [tokB, hw]; rfl

set_option maxHeartbeats 2000000 in
theorem specTableOk_any (w : World) (n : Int) (v : Value) (t : List Int) (hv : IRd w v t) :
    Calls Try.prog 88 #[.int .i64 n, v] w fun r w' => r = .returned (.bool (tokB n t)) ∧ w = w' := by
  obtain ⟨A, c, rfl, hl, hm, -⟩ := id hv
  have HV := Lib.hid hv
  clear hv
  go_enter Try.func88, Try.ntmps88
  go_wp2_with fail
  go_loop [5] (fun i => ∃ k : Nat, i = .int .i64 (k : Int) ∧ k ≤ t.length ∧ Hid ((t.take k).all (fun x => inB x 0 36) = true)) (fun i => t.length - (intOf i).toNat)
  case atStart => exact ⟨0, rfl, Nat.zero_le _, Lib.hid (by simp)⟩
  case round =>
    obtain ⟨k, rfl, hk, HA⟩ := hrel
    by_cases hlt : k < t.length
    · obtain ⟨b, off, x, rfl, -, hx, hcx⟩ := HV.out.at_ hlt
      have HX := Lib.hid hx
      clear hx
      go_wp2_with fail
      refine (l1In_any _ _ _ _).mono ?_
      rintro r w' ⟨rfl, rfl⟩
      rcases Bool.eq_false_or_eq_true (inB x 0 36) with h | h
      · rw [h]
        have HT := Lib.hid (all36_take HX.out h HA.out)
        clear h
        go_wp2_with fail
        go_round
        case rel => exact ⟨k + 1, by go_num, by omega, HT⟩
        case measure => simp [intOf]; omega
      · rw [h]
        have HT := Lib.hid (all36_take_no HX.out h n)
        clear h
        go_wp2_with fail
        go_ret
        exact ⟨ret_bool HT.out.symm, rfl⟩
    · have HT : Hid (t.all (fun x => inB x 0 36) = true) := Lib.hid (by have := HA.out; rwa [List.take_of_length_le (by omega)] at this)
      go_wp2_with fail
      refine (l1In_any _ _ _ _).mono ?_
      rintro r w' ⟨rfl, rfl⟩
      rcases Bool.eq_false_or_eq_true (inB n 1 4) with h | h
      · have HR := Lib.hid (tok_in h HT.out)
        have hn := (inB_iff _ _ _).1 h
        rw [h]
        clear h
        obtain ⟨b, hb⟩ : ∃ b, tokB n t = b := ⟨_, rfl⟩
        have HB := Lib.hid hb
        rw [hb] at HR
        clear hb
        obtain rfl | rfl | rfl | rfl : n = 1 ∨ n = 2 ∨ n = 3 ∨ n = 4 := by omega
        all_goals
          have hq := HR.out.symm
          simp only [show (1 : Int).toNat = 1 from rfl, show (2 : Int).toNat = 2 from rfl, show (3 : Int).toNat = 3 from rfl, show (4 : Int).toNat = 4 from rfl, Int.reducePow] at hq
          go_wp2_with fail
          go_ret
          exact ⟨ret_bool HB.out.symm, rfl⟩
      · have HT := Lib.hid (tok_out (t := t) h)
        rw [h]
        clear h
        go_wp2_with fail
        go_ret
        exact ⟨ret_bool HT.out.symm, rfl⟩

theorem tabR_no {m : List Int} (h : meaB m = false) : tabR m = [] := by rw [tabR, h]; rfl

theorem tabR_yes {m : List Int} (h : meaB m = true) : tabR m = tabL m := by rw [tabR, if_pos h]

set_option maxRecDepth 100000 in
set_option maxHeartbeats 4000000 in
theorem specTableOf_any (w : World) (v : Value) (m : List Int) (hv : IRd w v m) :
    Calls Try.prog 102 #[v] w (NewInts (tabR m) w) := by
  obtain ⟨A, c, rfl, hl, hmx, -⟩ := id hv
  have HV := Lib.hid hv
  have H0 : Hid (AppRel w (tabL m) 0 (.slice (some ⟨w.heap.size, 0, none⟩) 0 0) (w.alloc (.cells #[] 3))) := Lib.hid (app_start w (tabL m))
  have HV0 : Hid (∀ wr, Below w.heap.size w wr → IRd wr (.slice A m.length c) m) := Lib.hid (fun wr h => hv.keep (SameAt.of_below h))
  clear hv
  rcases Bool.eq_false_or_eq_true (meaB m) with h | h
  · have H := Lib.hid h
    have HG := Lib.hid (grs_of h)
    have hm4 : m.length ≤ 4 := (grs_of h).2
    have hm1 : 1 ≤ m.length := ((meaB_iff m).1 h).2.1
    have HZ : Hid ((tabL m).length = 2 ^ m.length) := Lib.hid (tab_len m)
    obtain ⟨i0, hi, hz0, hz1, hz2⟩ := info_parts Try_intinfo
    obtain ⟨N, hN, hN16⟩ : ∃ N : Nat, 2 ^ m.length = N ∧ N ≤ 16 := ⟨_, rfl, pow_16 hm4⟩
    clear h
    have HN := Lib.hid hN
    have HP := Lib.hid hN
    clear hN
    obtain ⟨q, hq⟩ : ∃ q, m.length = q := ⟨_, rfl⟩
    rw [hq] at hl hm1 hm4 HN HV HV0 ⊢
    have HQ := Lib.hid hq
    clear hq
    obtain rfl | rfl | rfl | rfl : q = 1 ∨ q = 2 ∨ q = 3 ∨ q = 4 := by omega
    all_goals
      go_enter Try.func102, Try.ntmps102
      go_wp2_with fail
      go_loopw [3, 4] (fun p i wr => ∃ k : Nat, i = .int .i64 (k : Int) ∧ k ≤ N ∧ Hid (AppRel w (tabL m) k p wr)) (fun _ i _ => N - (intOf i).toNat)
      case atStart => exact ⟨0, rfl, Nat.zero_le _, H0⟩
      case round =>
        obtain ⟨k, rfl, hk, HF⟩ := hrel
        clear H0
        have HR := Lib.hid (HV0.out wr HF.out.2)
        have hsz := HF.out.2.size
        by_cases hlt : k < N
        · have HS : Hid ((tabL m)[k]? = some (onI m (k : Int))) := Lib.hid (tab_at (by rw [HP.out]; exact hlt))
          have hNN := HN.out
          simp only [Nat.reducePow] at hNN
          subst hNN
          go_wp2_with fail
          refine (specMeasureOk_any _ _ _ HR.out).mono ?_
          rintro r w' ⟨rfl, rfl⟩
          rw [H.out]
          go_wp2_with fail
          refine (l4On_any _ _ m (k : Int) HR.out HG.out (by omega) (by omega)).mono ?_
          rintro r w2 ⟨rfl, b2⟩
          have HF2 : Hid (AppRel w (tabL m) k u3 w2) := Lib.hid ⟨HF.out.1.keep (SameAt.of_below b2), below_step HF.out.2 b2 HF.out.2.size⟩
          obtain ⟨x, hx⟩ : ∃ x, onI m (k : Int) = x := ⟨_, rfl⟩
          rw [hx] at HS ⊢
          clear hx b2 HF HR
          have hown0 := HF2.out.1
          unfold IOwn at hown0
          have hown := Lib.hid (World.ownsRow.alloc (w := w2) hown0 (.cells #[.int .i64 x] 3))
          have hsz2 := HF2.out.2.size
          clear hown0
          go_wp2_with (at_builtin; refine wpList_append_own _ rfl _ _ 41 rfl w.heap.size 3 i0 (.int .i64 0) 1 8 Try.underlying41 hi hz0 hz1 hz2 rfl (by decide) _ _ _ rfl hown.out ⟨w2.heap.size, 0, none⟩ 1 1 [.int .i64 x] rfl rfl ?c1 one_int ?c3 ?c4 ?c5 ?_)
          case c1 => exact one_new w2 _ _
          case c3 => unfold maxLen; simp; omega
          case c4 => simp; omega
          case c5 => simp; omega
          intro v' w' hown' hgrow _
          have HL := Lib.hid (HF2.out.step HS.out (show IOwn w' w.heap.size v' ((tabL m).take k ++ [x]) from by simpa [IOwn] using hown') (grown_after (w := w2) ((Below.refl _ w2).alloc (Nat.le_refl _) _) hgrow))
          clear hown' hgrow hown hi hz0 hz1 hz2
          go_wp2_with fail
          go_roundw
          case rel => exact ⟨k + 1, by go_num, by omega, HL⟩
          case measure => simp [intOf]; omega
        · obtain ⟨o1, b1⟩ := HF.out.all (by rw [HZ.out, HP.out]; omega)
          have B1 := Lib.hid b1
          have O1 := Lib.hid o1
          clear b1 o1
          have hNN := HN.out
          simp only [Nat.reducePow] at hNN
          subst hNN
          go_wp2_with fail
          refine (specMeasureOk_any _ _ _ HR.out).mono ?_
          rintro r w' ⟨rfl, rfl⟩
          rw [H.out]
          go_wp2_with fail
          go_ret
          exact ⟨_, rfl, by rw [tabR_yes H.out]; exact O1.out, B1.out⟩
  · have H := Lib.hid h
    have hsz : 0 ≤ 0 := Nat.le_refl _
    clear h
    go_enter Try.func102, Try.ntmps102
    go_wp2_with fail
    go_loopw [3, 4] (fun p i wr => i = .int .i64 0 ∧ p = .slice (some ⟨w.heap.size, 0, none⟩) 0 0 ∧ Hid (AppRel w (tabL m) 0 p wr)) (fun _ i _ => 0)
    case atStart => exact ⟨rfl, rfl, H0⟩
    case round =>
      obtain ⟨rfl, rfl, HF⟩ := hrel
      clear H0
      have HR := Lib.hid (HV0.out wr HF.out.2)
      go_wp2_with fail
      refine (specMeasureOk_any _ _ _ HR.out).mono ?_
      rintro r w' ⟨rfl, rfl⟩
      rw [H.out]
      go_wp2_with fail
      go_ret
      exact ⟨_, rfl, by rw [tabR_no H.out]; exact HF.out.1, HF.out.2⟩

end Go.Proofs.Yteljcicdibbhdaa
