/- The walk of the law of LosingStakes. Conditions: rows of bytes that came in. -/
import Derived.Test.YtfjmlbcmidichaaSf
import Derived.Test.YtfjmlbcmidichaaNj
namespace Go.Proofs.Ytfjmlbcmidichaa
open Go.RowKit
set_option linter.unusedVariables false

theorem lose_no {n : Int} {qs : List Qt} (h : lossOk n qs = false) : lossR n qs = [] ∧ firstB n qs = bokB n qs := by
  refine ⟨?_, ?_⟩
  · rw [lossOk] at h
    rw [lossR]
    cases hl : losing n qs with
    | none => rfl
    | some ss => rw [hl] at h; cases h
  · rw [first_fair, ← safe_fair, safeB, h, Bool.not_false, Bool.and_true]

theorem lose_yes {n : Int} {qs : List Qt} (h : lossOk n qs = true) : firstB n qs = false ∧ lossB n qs (lossR n qs) = true ∧ 0 < (lossR n qs).length ∧ Two2 (lossR n qs) ∧
    ∀ k x, (lossR n qs)[k]? = some x → x ≠ 0 → lossB n qs ((lossR n qs).set k (nearer x)) = false := by
  obtain ⟨h1, h2, h3, h4, h5, -⟩ := losing_some (loss_got h)
  refine ⟨by rw [first_fair, ← safe_fair, safeB, h, Bool.not_true, Bool.and_false], by rw [loss_two h1 h2 h3, h4], ?_, h3, fun k x hx h0 => ?_⟩
  · cases hl : lossR n qs with
    | nil => rw [hl] at h5; simp [absSum] at h5
    | cons a b => simp
  · rw [lossB, nearer_no (loss_got h) hx h0, Bool.and_false]

theorem near_up {x : Int} (h : 0 < x) : nearer x = x - 1 := by rw [nearer, if_pos h]

theorem near_down {x : Int} (h : x < 0) : nearer x = x + 1 := by rw [nearer, if_neg (by omega)]

set_option maxRecDepth 100000 in
set_option maxHeartbeats 8000000 in
theorem FnLosingStakes_walk (a0 : Option Addr) (len0 cap0 : Nat) (z0 : List Int) (w : World) (w0 : IsRowC .u8 w a0 len0 cap0 z0) :
    Calls Try.prog 10 #[.slice a0 len0 cap0] w fun e w' => e = .returned (.bool true) ∧ Below w.heap.size w w' := by
  by_cases hlen : 1048576 < len0
  · clear w0
    go_enter Try.func10, Try.ntmps10
    go_wp2
    go_ret
    exact ⟨rfl, Below.refl _ _⟩
  · have hlen' : decide (1048576 < len0) = false := by simpa using hlen
    go_enter Try.func10, Try.ntmps10
    go_wp2_with fail
    refine (drawLosingStakes_any _ _ _ _ _ w0).mono ?_
    rintro e w1 ⟨n, vb, qs, rfl, ovb1, hl4, B1⟩
    clear hlen hlen' w0
    have z1 := B1.size
    have hvb : ∀ g, vb.ownBlock = some g → g < w1.heap.size := fun g hg => (ovb1.ge g hg).2
    rcases Bool.eq_false_or_eq_true (lossOk n qs) with ht | ht
    · obtain ⟨f1, f2, f3, f4, f5⟩ := lose_yes ht
      have hl3 := lossR_len n qs
      obtain ⟨ss, hss⟩ : ∃ ss, lossR n qs = ss := ⟨_, rfl⟩
      rw [hss] at f2 f3 f4 f5 hl3
      have HT := Lib.hid ht
      have HSS := Lib.hid hss
      have F1 := Lib.hid f1
      have F2 := Lib.hid f2
      have F3 := Lib.hid f3
      have F4 := Lib.hid f4
      have F5 := Lib.hid f5
      clear ht hss f1 f2 f3 f4 f5
      go_wp2_with fail
      refine (implLosingStakes_any w1 n vb qs (ovb1.rd qC_len)).mono ?_
      rintro e w2 ⟨vs, rfl, ovs2, b2⟩
      rw [HT.out]
      rw [HSS.out] at ovs2
      have z2 := b2.size
      have hvs : ∀ g, vs.ownBlock = some g → g < w2.heap.size := fun g hg => (ovs2.ge g hg).2
      have B2 := below_step B1 b2 (by omega)
      have ovb2 := ovb1.keep (SameAt.of_below b2)
      clear B1 b2 ovb1
      go_wp2_with fail
      refine (specLosingStakes_any w2 n vb qs (ovb2.rd qC_len)).mono ?_
      rintro e w3 ⟨vx, rfl, ovx3, b3⟩
      rw [HT.out]
      rw [HSS.out] at ovx3
      have z3 := b3.size
      have hvx : ∀ g, vx.ownBlock = some g → g < w3.heap.size := fun g hg => (ovx3.ge g hg).2
      have B3 := below_step B2 b3 (by omega)
      have ovb3 := ovb2.keep (SameAt.of_below b3)
      have ovs3 := ovs2.keep (SameAt.of_below b3)
      clear B2 b3 ovb2 ovs2
      go_wp2_with fail
      refine (sameInts_any w3 vs vx _ _ (ovs3.rd) (ovx3.rd)).mono ?_
      rintro e w' ⟨q4, rfl, rfl⟩
      rw [decide_self]
      have z4 : w3.heap.size ≤ (w3.drewN q4).heap.size := Nat.le_refl _
      have B4 : Below w.heap.size w (w3.drewN q4) := below_drewN B3 q4
      have ovb4 : QOwn (w3.drewN q4) _ vb _ := ovb3
      have ovs4 : IOwn (w3.drewN q4) _ vs _ := ovs3
      have ovx4 : IOwn (w3.drewN q4) _ vx _ := ovx3
      clear B3 ovb3 ovs3 ovx3
      generalize w3.drewN q4 = w4 at *
      clear ovx4 hvx
      go_wp2_with fail
      refine (implFirstMeasure_any w4 n vb qs (ovb4.rd qC_len)).mono ?_
      rintro e w5 ⟨vf, rfl, ovf5, b5⟩
      rw [F1.out]
      have z5 := b5.size
      have hvf : ∀ g, vf.ownBlock = some g → g < w5.heap.size := fun g hg => (ovf5.ge g hg).2
      have B5 := below_step B4 b5 (by omega)
      have ovb5 := ovb4.keep (SameAt.of_below b5)
      have ovs5 := ovs4.keep (SameAt.of_below b5)
      clear B4 b5 ovb4 ovs4
      clear ovf5 hvf
      have HVB := Lib.hid ovb5
      have HVS := Lib.hid ovs5
      have HBJ := Lib.hid B5
      have HZJ : Hid (w.heap.size ≤ w5.heap.size) := Lib.hid B5.size
      obtain ⟨gs, cs, rfl, hcs1, hcs2⟩ := HVS.out.form F3.out
      have hcs3 : (ss.length : Int) ≤ (cs : Int) := by omega
      have hss1 : (0 : Int) < (ss.length : Int) := by have := F3.out; omega
      clear ovb5 ovs5 B5
      obtain ⟨i0, hi, hz0, hz1, hz2⟩ := info_parts Try_intinfo
      go_wp2_with fail
      go_loopw [11] (fun i wr => ∃ k : Nat, i = .int .i64 (k : Int) ∧ k ≤ ss.length ∧ Hid (Below w5.heap.size w5 wr)) (fun i _ => ss.length + 1 - (intOf i).toNat)
      case atStart => exact ⟨0, rfl, Nat.zero_le _, Lib.hid (Below.refl _ _)⟩
      case round =>
        obtain ⟨k, rfl, hk, HR⟩ := hrel
        have hsz := HR.out.size
        by_cases hlt : k < ss.length
        · have hlt2 : (k : Int) < (ss.length : Int) := by omega
          obtain ⟨x, hx⟩ : ∃ x, ss[k]? = some x := ⟨_, List.getElem?_eq_getElem hlt⟩
          obtain ⟨x1, x2⟩ := F4.out x (List.mem_of_getElem? hx)
          have HX := Lib.hid hx
          clear hx
          have hown := Lib.hid (lit_own wr wr.heap.size (Nat.le_refl _))
          have hnews := Lib.hid (ird_news ((HVS.out.keep (SameAt.of_below HR.out)).rd.keep (SameAt.grow (w' := wr.alloc (.cells #[] 3)) rfl)))
          go_wp2_with (at_builtin; refine wpList_append_own _ rfl _ _ 26 rfl wr.heap.size 3 i0 (.int .i64 0) 1 8 Try.underlying26 hi hz0 hz1 hz2 rfl (by decide) _ _ _ rfl hown.out ⟨gs, 0, none⟩ ss.length cs (ss.map (Value.int .i64)) rfl (by simp) hnews.out (ints_one' ss) ?d3 ?d4 ?d5 ?_)
          case d3 => unfold maxLen; simp; omega
          case d4 => simp; omega
          case d5 => simp
          intro v1 w1' hown1 hgrow1 _
          have o1 : IOwn w1' wr.heap.size v1 ss := by unfold IOwn; simpa using hown1
          have b1 : Below wr.heap.size wr w1' := below_app hgrow1 (fun k hk => by have h1 : wr.heap.size = k := Option.some.inj hk; omega)
          obtain ⟨gl, cl, rfl, hcl1, hcl2⟩ := o1.form F3.out
          have hcl3 : (ss.length : Int) ≤ (cl : Int) := by omega
          have hcx := IOwn.cellk o1 HX.out
          have hfx := IOwn.frz o1 rfl k
          have HO1 := Lib.hid o1
          have HB1 := Lib.hid (below_step HR.out b1 hsz)
          clear hown hnews hown1 hgrow1 o1 b1
          by_cases hp : 0 < x
          · obtain ⟨os, gs'⟩ := IOwn.set_ HO1.out rfl k (x - 1)
            have HOT := Lib.hid os
            have HBT := Lib.hid (HB1.out.grown gs' HB1.out.size (fun j hj => by have h1 := (HO1.out.ge gl rfl).1; have h2 : gl = j := Option.some.inj hj; omega))
            have HF5 : Hid (lossB n qs (ss.set k (x - 1)) = false) := Lib.hid (by have := F5.out k x HX.out (by omega); rwa [near_up hp] at this)
            clear os gs'
            go_wp2_with fail
            refine (implLosesBy_any (w1'.setCell ⟨gl, k, none⟩ (.int .i64 (x - 1))) n vb _ qs (ss.set k (x - 1)) ((HVB.out.keep (SameAt.of_below HBT.out)).rd qC_len) HOT.out.rd).mono ?_
            rintro e wu ⟨rfl, bu⟩
            rw [HF5.out]
            have HU := Lib.hid (below_step HBT.out bu HBT.out.size)
            clear bu
            go_wp2_with fail
            go_roundw
            case rel => exact ⟨k + 1, by go_num, by omega, HU⟩
            case measure => simp [intOf]; omega
          · by_cases hq : x < 0
            · have hp2 : x ≤ 0 := by omega
              obtain ⟨os, gs'⟩ := IOwn.set_ HO1.out rfl k (x + 1)
              have HOT := Lib.hid os
              have HBT := Lib.hid (HB1.out.grown gs' HB1.out.size (fun j hj => by have h1 := (HO1.out.ge gl rfl).1; have h2 : gl = j := Option.some.inj hj; omega))
              have HF5 : Hid (lossB n qs (ss.set k (x + 1)) = false) := Lib.hid (by have := F5.out k x HX.out (by omega); rwa [near_down hq] at this)
              clear os gs'
              go_wp2_with fail
              refine (implLosesBy_any (w1'.setCell ⟨gl, k, none⟩ (.int .i64 (x + 1))) n vb _ qs (ss.set k (x + 1)) ((HVB.out.keep (SameAt.of_below HBT.out)).rd qC_len) HOT.out.rd).mono ?_
              rintro e wu ⟨rfl, bu⟩
              rw [HF5.out]
              have HU := Lib.hid (below_step HBT.out bu HBT.out.size)
              clear bu
              go_wp2_with fail
              go_roundw
              case rel => exact ⟨k + 1, by go_num, by omega, HU⟩
              case measure => simp [intOf]; omega
            · obtain rfl : x = 0 := by omega
              go_wp2_with fail
              go_roundw
              case rel => exact ⟨k + 1, by go_num, by omega, HB1⟩
              case measure => simp [intOf]; omega
        · obtain rfl : k = ss.length := by omega
          have HBR := Lib.hid (below_step HBJ.out HR.out HZJ.out)
          go_wp2_with fail
          refine (implLosesBy_any wr n vb _ qs ss ((HVB.out.keep (SameAt.of_below HR.out)).rd qC_len) (HVS.out.keep (SameAt.of_below HR.out)).rd).mono ?_
          rintro e wa ⟨rfl, ba⟩
          rw [F2.out]
          have HA := Lib.hid (below_step HBR.out ba HBR.out.size)
          clear ba
          go_wp2_with fail
          go_ret
          exact ⟨rfl, HA.out⟩
    · obtain ⟨f1, f2⟩ := lose_no ht
      obtain ⟨b, hb⟩ : ∃ b, bokB n qs = b := ⟨_, rfl⟩
      rw [hb] at f2
      have HT := Lib.hid ht
      have F1 := Lib.hid f1
      have F2 := Lib.hid f2
      have HB := Lib.hid hb
      clear ht f1 f2 hb
      go_wp2_with fail
      refine (implLosingStakes_any w1 n vb qs (ovb1.rd qC_len)).mono ?_
      rintro e w2 ⟨vs, rfl, ovs2, b2⟩
      rw [HT.out]
      rw [F1.out] at ovs2
      have z2 := b2.size
      have hvs : ∀ g, vs.ownBlock = some g → g < w2.heap.size := fun g hg => (ovs2.ge g hg).2
      have B2 := below_step B1 b2 (by omega)
      have ovb2 := ovb1.keep (SameAt.of_below b2)
      clear B1 b2 ovb1
      go_wp2_with fail
      refine (specLosingStakes_any w2 n vb qs (ovb2.rd qC_len)).mono ?_
      rintro e w3 ⟨vx, rfl, ovx3, b3⟩
      rw [HT.out]
      rw [F1.out] at ovx3
      have z3 := b3.size
      have hvx : ∀ g, vx.ownBlock = some g → g < w3.heap.size := fun g hg => (ovx3.ge g hg).2
      have B3 := below_step B2 b3 (by omega)
      have ovb3 := ovb2.keep (SameAt.of_below b3)
      have ovs3 := ovs2.keep (SameAt.of_below b3)
      clear B2 b3 ovb2 ovs2
      go_wp2_with fail
      refine (sameInts_any w3 vs vx _ _ (ovs3.rd) (ovx3.rd)).mono ?_
      rintro e w' ⟨q4, rfl, rfl⟩
      rw [decide_self]
      have z4 : w3.heap.size ≤ (w3.drewN q4).heap.size := Nat.le_refl _
      have B4 : Below w.heap.size w (w3.drewN q4) := below_drewN B3 q4
      have ovb4 : QOwn (w3.drewN q4) _ vb _ := ovb3
      have ovs4 : IOwn (w3.drewN q4) _ vs _ := ovs3
      have ovx4 : IOwn (w3.drewN q4) _ vx _ := ovx3
      clear B3 ovb3 ovs3 ovx3
      generalize w3.drewN q4 = w4 at *
      clear ovx4 hvx
      go_wp2_with fail
      refine (implFirstMeasure_any w4 n vb qs (ovb4.rd qC_len)).mono ?_
      rintro e w5 ⟨vf, rfl, ovf5, b5⟩
      rw [F2.out]
      have z5 := b5.size
      have hvf : ∀ g, vf.ownBlock = some g → g < w5.heap.size := fun g hg => (ovf5.ge g hg).2
      have B5 := below_step B4 b5 (by omega)
      have ovb5 := ovb4.keep (SameAt.of_below b5)
      have ovs5 := ovs4.keep (SameAt.of_below b5)
      clear B4 b5 ovb4 ovs4
      clear ovf5 hvf
      obtain ⟨As, cs, rfl, hlcs, hms, -⟩ := id (ovs5.rd)
      go_wp2_with fail
      refine (implBookOk_any w5 n vb qs (ovb5.rd qC_len)).mono ?_
      rintro e w6 ⟨rfl, b6⟩
      rw [HB.out]
      have z6 := b6.size
      have B6 := below_step B5 b6 (by omega)
      have ovb6 := ovb5.keep (SameAt.of_below b6)
      have ovs6 := ovs5.keep (SameAt.of_below b6)
      clear B5 b6 ovb5 ovs5
      cases b
      all_goals
        go_wp2_with fail
        refine (alive_any _).mono ?_
        rintro e w' ⟨rfl, rfl⟩
        go_wp2_with fail
        go_ret
        exact ⟨rfl, B6⟩

end Go.Proofs.Ytfjmlbcmidichaa
