/- The walk of the law of WinningStakes. Conditions: rows of bytes that came in. (gen_jk.py) -/
import Derived.Test.YtodmgcbcacblbaaJj
import Derived.Test.YtodmgcbcacblbaaNj
namespace Go.Proofs.Ytodmgcbcacblbaa
open Go.RowKit
set_option linter.unusedVariables false

theorem win_yes13 {n : Nat} {bs : List Bt} (h : winOk (n : Int) bs = true) : sfairB (n : Int) bs = false ∧ tgB (n : Int) bs (winR (n : Int) bs) = true ∧ gokB (tgR (n : Int) bs (winR (n : Int) bs)) = true ∧ 0 < worstI (tgR (n : Int) bs (winR (n : Int) bs)) ∧ 0 < (winR (n : Int) bs).length ∧ (winR (n : Int) bs).length ≤ 3 ∧ Two2 (winR (n : Int) bs) ∧
    ∀ k x, (winR (n : Int) bs)[k]? = some x → x ≠ 0 → tgB (n : Int) bs ((winR (n : Int) bs).set k (nearer x)) = true ∧ gokB (tgR (n : Int) bs ((winR (n : Int) bs).set k (nearer x))) = true ∧ worstI (tgR (n : Int) bs ((winR (n : Int) bs).set k (nearer x))) ≤ 0 := by
  obtain ⟨h1, h2, h3, h4, h5, -⟩ := winning_some (win_got h)
  have h6 := tg_two h1 h2 h3
  have h7 := (bidsB_iff _ _).1 h1
  rw [winB, Bool.and_eq_true, decide_eq_true_eq] at h4
  refine ⟨?_, h6, h4.1, h4.2, ?_, by omega, h3, fun k x hx h0 => ?_⟩
  · have := win_ok h1
    rw [h] at this
    cases hf : sfairB (n : Int) bs with
    | true => rw [hf] at this; cases this
    | false => rfl
  · cases hl : winR (n : Int) bs with
    | nil => rw [hl] at h5; simp [absSum] at h5
    | cons a b => simp
  · obtain ⟨k1, k2, k3⟩ := wnearer_no (win_got h) hx h0
    have k4 := tg_two h1 k1 k2
    have k5 := tg_gok k4
    rw [← tg_yes k4] at k5
    refine ⟨k4, k5, ?_⟩
    rw [winB, k5, Bool.true_and, decide_eq_false_iff_not] at k3
    omega

theorem win_no13 {n : Nat} {bs : List Bt} (h : winOk (n : Int) bs = false) : winR (n : Int) bs = [] ∧ sfairB (n : Int) bs = bidsB (n : Int) bs := by
  refine ⟨?_, ?_⟩
  · rw [winOk] at h
    rw [winR]
    cases hl : winning (n : Int) bs with
    | none => rfl
    | some ss => rw [hl] at h; cases h
  · rcases Bool.eq_false_or_eq_true (bidsB (n : Int) bs) with hb | hb
    · have := win_ok hb
      rw [h] at this
      rw [hb]
      cases hf : sfairB (n : Int) bs with
      | true => rfl
      | false => rw [hf] at this; cases this
    · rw [sfair_nob hb, hb]

theorem near_up13 {x : Int} (h : 0 < x) : nearer x = x - 1 := by rw [nearer, if_pos h]

theorem near_down13 {x : Int} (h : x < 0) : nearer x = x + 1 := by rw [nearer, if_neg (by omega)]

set_option maxRecDepth 100000 in
set_option maxHeartbeats 8000000 in
theorem FnWinningStakes_walk (a0 : Option Addr) (len0 cap0 : Nat) (z0 : List Int) (w : World) (w0 : IsRowC .u8 w a0 len0 cap0 z0) :
    Calls Try.prog 7 #[.slice a0 len0 cap0] w fun e w' => e = .returned (.bool true) ∧ Below w.heap.size w w' := by
  by_cases hlen : 1048576 < len0
  · clear w0
    go_enter Try.func7, Try.ntmps7
    go_wp2
    go_ret
    exact ⟨rfl, Below.refl _ _⟩
  · have hlen' : decide (1048576 < len0) = false := by simpa using hlen
    go_enter Try.func7, Try.ntmps7
    go_wp2_with fail
    refine (drawWinningStakes_any _ _ _ _ _ w0).mono ?_
    rintro e w1 ⟨n, vb, bs, rfl, ⟨n1, n4⟩, ovb1, hl4, B1⟩
    clear hlen hlen' w0
    have z1 := B1.size
    have hvb : ∀ g, vb.ownBlock = some g → g < w1.heap.size := fun g hg => (ovb1.ge g hg).2
    rcases Bool.eq_false_or_eq_true (winOk (n : Int) bs) with ht | ht
    · obtain ⟨f1, f2, f3, f4, f5, hl3, f6, f7⟩ := win_yes13 ht
      obtain ⟨ss, hss⟩ : ∃ ss, winR (n : Int) bs = ss := ⟨_, rfl⟩
      rw [hss] at f2 f3 f4 f5 hl3 f6 f7
      obtain ⟨y, hy⟩ : ∃ y, worstI (tgR (n : Int) bs ss) = y := ⟨_, rfl⟩
      rw [hy] at f4
      have HT := Lib.hid ht
      have HSS := Lib.hid hss
      have HY := Lib.hid hy
      have F1 := Lib.hid f1
      have F2 := Lib.hid f2
      have F3 := Lib.hid f3
      have F5 := Lib.hid f5
      have F6 := Lib.hid f6
      have F7 := Lib.hid f7
      clear ht hss hy f1 f2 f3 f5 f6 f7
      go_wp2_with fail
      refine (implWinningStakes_any w1 (n : Int) vb bs (ovb1.rd bC_len)).mono ?_
      rintro e w2 ⟨vs, rfl, ovs2, b2⟩
      rw [HT.out]
      rw [HSS.out] at ovs2
      have z2 := b2.size
      have hvs : ∀ g, vs.ownBlock = some g → g < w2.heap.size := fun g hg => (ovs2.ge g hg).2
      have B2 := below_step B1 b2 (by omega)
      have ovb2 := ovb1.keep (SameAt.of_below b2)
      clear B1 b2 ovb1
      go_wp2_with fail
      refine (specWinningStakes_any w2 (n : Int) vb bs (ovb2.rd bC_len)).mono ?_
      rintro e w3 ⟨vx, rfl, ovx3, b3⟩
      rw [HT.out]
      rw [HSS.out] at ovx3
      have z3 := b3.size
      have hvx : ∀ g, vx.ownBlock = some g → g < w3.heap.size := fun g hg => (ovx3.ge g hg).2
      have B3 := below_step B2 b3 (by omega)
      have ovb3 := ovb2.keep (SameAt.of_below b3)
      have ovs3 := ovs2.keep (SameAt.of_below b3)
      clear B2 b3 ovb2 ovs2
      go_wp2_with fail
      refine (sameInts_any w3 vs vx _ _ (ovs3.rd) (ovx3.rd)).mono ?_
      rintro e w' ⟨q4, rfl, rfl⟩
      rw [decide_self]
      have z4 : w3.heap.size ≤ (w3.drewN q4).heap.size := Nat.le_refl _
      have B4 : Below w.heap.size w (w3.drewN q4) := below_drewN B3 q4
      have ovb4 : BOwn (w3.drewN q4) _ vb _ := ovb3
      have ovs4 : IOwn (w3.drewN q4) _ vs _ := ovs3
      have ovx4 : IOwn (w3.drewN q4) _ vx _ := ovx3
      clear B3 ovb3 ovs3 ovx3
      generalize w3.drewN q4 = w4 at *
      clear ovx4 hvx
      go_wp2_with fail
      refine (implSidesFair_any w4 (n : Int) vb bs (ovb4.rd bC_len)).mono ?_
      rintro e w5 ⟨rfl, b5⟩
      rw [F1.out]
      have z5 := b5.size
      have B5 := below_step B4 b5 (by omega)
      have ovb5 := ovb4.keep (SameAt.of_below b5)
      have ovs5 := ovs4.keep (SameAt.of_below b5)
      clear B4 b5 ovb4 ovs4
      go_wp2_with fail
      refine (implTakerGain_any w5 (n : Int) vb vs bs ss (ovb5.rd bC_len) (ovs5.rd)).mono ?_
      rintro e w6 ⟨vg, rfl, ovg6, b6⟩
      rw [F2.out]
      have z6 := b6.size
      have hvg : ∀ g, vg.ownBlock = some g → g < w6.heap.size := fun g hg => (ovg6.ge g hg).2
      have B6 := below_step B5 b6 (by omega)
      have ovb6 := ovb5.keep (SameAt.of_below b6)
      have ovs6 := ovs5.keep (SameAt.of_below b6)
      clear B5 b6 ovb5 ovs5
      go_wp2_with fail
      refine (implWorstOf_any w6 vg _ (ovg6.rd)).mono ?_
      rintro e w' ⟨rfl, rfl⟩
      rw [F3.out, HY.out]
      clear ovg6 hvg
      have HVB := Lib.hid ovb6
      have HVS := Lib.hid ovs6
      have HBJ := Lib.hid B6
      have HZJ : Hid (w.heap.size ≤ w6.heap.size) := Lib.hid B6.size
      obtain ⟨gs, cs, rfl, hcs1, hcs2⟩ := HVS.out.form F5.out
      have hcs3 : (ss.length : Int) ≤ (cs : Int) := by omega
      have hss1 : (0 : Int) < (ss.length : Int) := by have := F5.out; omega
      clear ovb6 ovs6 B6
      obtain ⟨i0, hi, hz0, hz1, hz2⟩ := info_parts Try_intinfo
      go_wp2_with fail
      go_loopw [14] (fun i wr => ∃ k : Nat, i = .int .i64 (k : Int) ∧ k ≤ ss.length ∧ Hid (Below w6.heap.size w6 wr)) (fun i _ => ss.length + 1 - (intOf i).toNat)
      case atStart => exact ⟨0, rfl, Nat.zero_le _, Lib.hid (Below.refl _ _)⟩
      case round =>
        obtain ⟨k, rfl, hk, HR⟩ := hrel
        have hsz := HR.out.size
        by_cases hlt : k < ss.length
        · have hlt2 : (k : Int) < (ss.length : Int) := by omega
          obtain ⟨x, hx⟩ : ∃ x, ss[k]? = some x := ⟨_, List.getElem?_eq_getElem hlt⟩
          obtain ⟨x1, x2⟩ := F6.out x (List.mem_of_getElem? hx)
          have HX := Lib.hid hx
          have hc0 := IOwn.cellk (HVS.out.keep (SameAt.of_below HR.out)) hx
          clear hx
          by_cases hx0 : x = 0
          · subst hx0
            go_wp2_with fail
            go_roundw
            case rel => exact ⟨k + 1, by go_num, by omega, HR⟩
            case measure => simp [intOf]; omega
          · have hx0' : (x == 0) = false := by rw [beq_eq_false_iff_ne]; exact hx0
            have hown := Lib.hid (lit_own wr wr.heap.size (Nat.le_refl _))
            have hnews := Lib.hid (ird_news ((HVS.out.keep (SameAt.of_below HR.out)).rd.keep (SameAt.grow (w' := wr.alloc (.cells #[] 3)) rfl)))
            go_wp2_with (at_builtin; refine wpList_append_own _ rfl _ _ 31 rfl wr.heap.size 3 i0 (.int .i64 0) 1 8 Try.underlying31 hi hz0 hz1 hz2 rfl (by decide) _ _ _ rfl hown.out ⟨gs, 0, none⟩ ss.length cs (ss.map (Value.int .i64)) rfl (by simp) hnews.out (ints_one' ss) ?d3 ?d4 ?d5 ?_)
            case d3 => unfold maxLen; simp; omega
            case d4 => simp; omega
            case d5 => simp
            intro v1 w1' hown1 hgrow1 _
            have o1 : IOwn w1' wr.heap.size v1 ss := by unfold IOwn; simpa using hown1
            have b1 : Below wr.heap.size wr w1' := below_app hgrow1 (fun k hk => by have h1 : wr.heap.size = k := Option.some.inj hk; omega)
            obtain ⟨gl, cl, rfl, hcl1, hcl2⟩ := o1.form F5.out
            have hcl3 : (ss.length : Int) ≤ (cl : Int) := by omega
            have hcx := IOwn.cellk o1 HX.out
            have hfx := IOwn.frz o1 rfl k
            have HO1 := Lib.hid o1
            have HB1 := Lib.hid (below_step HR.out b1 hsz)
            clear hown hnews hown1 hgrow1 o1 b1 hc0
            by_cases hp : 0 < x
            · obtain ⟨os, gs'⟩ := IOwn.set_ HO1.out rfl k (x - 1)
              have HOT := Lib.hid os
              have HBT := Lib.hid (HB1.out.grown gs' HB1.out.size (fun j hj => by have h1 := (HO1.out.ge gl rfl).1; have h2 : gl = j := Option.some.inj hj; omega))
              have hf7 := F7.out k x HX.out (by omega)
              rw [near_up13 hp] at hf7
              obtain ⟨y2, hy2⟩ : ∃ y, worstI (tgR (n : Int) bs (ss.set k (x - 1))) = y := ⟨_, rfl⟩
              rw [hy2] at hf7
              have HF5 : Hid (tgB (n : Int) bs (ss.set k (x - 1)) = true) := Lib.hid hf7.1
              have HF8 : Hid (gokB (tgR (n : Int) bs (ss.set k (x - 1))) = true) := Lib.hid hf7.2.1
              have hy3 : decide (0 < y2) = false := decide_eq_false (by have := hf7.2.2; omega)
              have HY2 := Lib.hid hy2
              clear os gs' hf7 hy2
              go_wp2_with fail
              refine (implTakerGain_any (w1'.setCell ⟨gl, k, none⟩ (.int .i64 (x - 1))) (n : Int) vb _ bs (ss.set k (x - 1)) ((HVB.out.keep (SameAt.of_below HBT.out)).rd bC_len) HOT.out.rd).mono ?_
              rintro e wu ⟨vh, rfl, oh, bu⟩
              rw [HF5.out]
              have HU := Lib.hid (below_step HBT.out bu HBT.out.size)
              have HOH := Lib.hid oh.rd
              clear bu oh
              go_wp2_with fail
              refine (implWorstOf_any wu vh _ HOH.out).mono ?_
              rintro e w' ⟨rfl, rfl⟩
              rw [HF8.out, HY2.out]
              go_wp2_with fail
              go_roundw
              case rel => exact ⟨k + 1, by go_num, by omega, HU⟩
              case measure => simp [intOf]; omega
            · have hp2 : x ≤ 0 := by omega
              have hp3 : x < 0 := by omega
              obtain ⟨os, gs'⟩ := IOwn.set_ HO1.out rfl k (x + 1)
              have HOT := Lib.hid os
              have HBT := Lib.hid (HB1.out.grown gs' HB1.out.size (fun j hj => by have h1 := (HO1.out.ge gl rfl).1; have h2 : gl = j := Option.some.inj hj; omega))
              have hf7 := F7.out k x HX.out (by omega)
              rw [near_down13 hp3] at hf7
              obtain ⟨y2, hy2⟩ : ∃ y, worstI (tgR (n : Int) bs (ss.set k (x + 1))) = y := ⟨_, rfl⟩
              rw [hy2] at hf7
              have HF5 : Hid (tgB (n : Int) bs (ss.set k (x + 1)) = true) := Lib.hid hf7.1
              have HF8 : Hid (gokB (tgR (n : Int) bs (ss.set k (x + 1))) = true) := Lib.hid hf7.2.1
              have hy3 : decide (0 < y2) = false := decide_eq_false (by have := hf7.2.2; omega)
              have HY2 := Lib.hid hy2
              clear os gs' hf7 hy2
              go_wp2_with fail
              refine (implTakerGain_any (w1'.setCell ⟨gl, k, none⟩ (.int .i64 (x + 1))) (n : Int) vb _ bs (ss.set k (x + 1)) ((HVB.out.keep (SameAt.of_below HBT.out)).rd bC_len) HOT.out.rd).mono ?_
              rintro e wu ⟨vh, rfl, oh, bu⟩
              rw [HF5.out]
              have HU := Lib.hid (below_step HBT.out bu HBT.out.size)
              have HOH := Lib.hid oh.rd
              clear bu oh
              go_wp2_with fail
              refine (implWorstOf_any wu vh _ HOH.out).mono ?_
              rintro e w' ⟨rfl, rfl⟩
              rw [HF8.out, HY2.out]
              go_wp2_with fail
              go_roundw
              case rel => exact ⟨k + 1, by go_num, by omega, HU⟩
              case measure => simp [intOf]; omega
        · obtain rfl : k = ss.length := by omega
          have HBR := Lib.hid (below_step HBJ.out HR.out HZJ.out)
          go_wp2_with fail
          go_ret
          exact ⟨rfl, HBR.out⟩
    · obtain ⟨f1, f2⟩ := win_no13 ht
      obtain ⟨b, hb⟩ : ∃ b, bidsB (n : Int) bs = b := ⟨_, rfl⟩
      rw [hb] at f2
      have HT := Lib.hid ht
      have F1 := Lib.hid f1
      have F2 := Lib.hid f2
      have HB := Lib.hid hb
      clear ht f1 f2 hb
      go_wp2_with fail
      refine (implWinningStakes_any w1 (n : Int) vb bs (ovb1.rd bC_len)).mono ?_
      rintro e w2 ⟨vs, rfl, ovs2, b2⟩
      rw [HT.out]
      rw [F1.out] at ovs2
      have z2 := b2.size
      have hvs : ∀ g, vs.ownBlock = some g → g < w2.heap.size := fun g hg => (ovs2.ge g hg).2
      have B2 := below_step B1 b2 (by omega)
      have ovb2 := ovb1.keep (SameAt.of_below b2)
      clear B1 b2 ovb1
      go_wp2_with fail
      refine (specWinningStakes_any w2 (n : Int) vb bs (ovb2.rd bC_len)).mono ?_
      rintro e w3 ⟨vx, rfl, ovx3, b3⟩
      rw [HT.out]
      rw [F1.out] at ovx3
      have z3 := b3.size
      have hvx : ∀ g, vx.ownBlock = some g → g < w3.heap.size := fun g hg => (ovx3.ge g hg).2
      have B3 := below_step B2 b3 (by omega)
      have ovb3 := ovb2.keep (SameAt.of_below b3)
      have ovs3 := ovs2.keep (SameAt.of_below b3)
      clear B2 b3 ovb2 ovs2
      go_wp2_with fail
      refine (sameInts_any w3 vs vx _ _ (ovs3.rd) (ovx3.rd)).mono ?_
      rintro e w' ⟨q4, rfl, rfl⟩
      rw [decide_self]
      have z4 : w3.heap.size ≤ (w3.drewN q4).heap.size := Nat.le_refl _
      have B4 : Below w.heap.size w (w3.drewN q4) := below_drewN B3 q4
      have ovb4 : BOwn (w3.drewN q4) _ vb _ := ovb3
      have ovs4 : IOwn (w3.drewN q4) _ vs _ := ovs3
      have ovx4 : IOwn (w3.drewN q4) _ vx _ := ovx3
      clear B3 ovb3 ovs3 ovx3
      generalize w3.drewN q4 = w4 at *
      clear ovx4 hvx
      go_wp2_with fail
      refine (implSidesFair_any w4 (n : Int) vb bs (ovb4.rd bC_len)).mono ?_
      rintro e w5 ⟨rfl, b5⟩
      rw [F2.out]
      have z5 := b5.size
      have B5 := below_step B4 b5 (by omega)
      have ovb5 := ovb4.keep (SameAt.of_below b5)
      have ovs5 := ovs4.keep (SameAt.of_below b5)
      clear B4 b5 ovb4 ovs4
      obtain ⟨As, cs, rfl, hlcs, hms, -⟩ := id (ovs5.rd)
      go_wp2_with fail
      refine (implBidsOk_any w5 (n : Int) vb bs (ovb5.rd bC_len)).mono ?_
      rintro e w6 ⟨rfl, b6⟩
      rw [HB.out]
      have z6 := b6.size
      have B6 := below_step B5 b6 (by omega)
      have ovb6 := ovb5.keep (SameAt.of_below b6)
      have ovs6 := ovs5.keep (SameAt.of_below b6)
      clear B5 b6 ovb5 ovs5
      cases b
      all_goals
        go_wp2_with fail
        refine (alive_any _).mono ?_
        rintro e w' ⟨rfl, rfl⟩
        go_wp2_with fail
        go_ret
        exact ⟨rfl, B6⟩

end Go.Proofs.Ytodmgcbcacblbaa
