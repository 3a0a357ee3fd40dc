/- The walk of the law of FitsOk. Conditions: rows of bytes that came in. -/
import Derived.Test.YtnbkpfmcnjgfdaaDo
import Derived.Test.YtnbkpfmcnjgfdaaNc
import Derived.Test.YtnbkpfmcnjgfdaaQi
import Derived.Test.YtnbkpfmcnjgfdaaEv2
namespace Go.Proofs.Ytnbkpfmcnjgfdaa
open Go.RowKit
set_option linter.unusedVariables false

theorem rowc_keepB {k : IntKind} {w w' : World} {a : Option Addr} {len cap : Nat} {zs : List Int} (h : IsRowC k w a len cap zs) (b : Below w.heap.size w w') : IsRowC k w' a len cap zs := by
  rcases h with ⟨rfl, rfl, rfl, rfl⟩ | ⟨x, rfl, hl, hm, hz, hcell, hwz⟩
  · exact .inl ⟨rfl, rfl, rfl, rfl⟩
  · refine .inr ⟨x, rfl, hl, hm, hz, fun i hi => ?_, hwz⟩
    have hc := hcell i hi
    have hlt := World.block_lt_of_cell? w _ hc
    exact (World.cell?_of_block (b.block _ hlt)).trans hc

theorem row_byte {w : World} {a : Option Addr} {len cap : Nat} {zs : List Int} (h : IsRowC .u8 w a len cap zs) (h0 : 0 < len) : ∃ b off, a = some ⟨b, off, none⟩ ∧ ∀ i, i < len → ∃ v : Nat, v ≤ 255 ∧ w.cell? ⟨b, off + i, none⟩ = some (.int .u8 (v : Int)) := by
  rcases h with ⟨rfl, rfl, rfl, rfl⟩ | ⟨x, rfl, hl, hm, hz, hcell, hwz⟩
  · omega
  · obtain ⟨b, off, spot⟩ := x
    have hc := hcell 0 (by omega)
    have hspot : spot = none := by simpa [Addr.add] using World.cell?_spot hc
    subst hspot
    refine ⟨b, off, rfl, fun i hi => ?_⟩
    obtain ⟨v, hv, e⟩ := u8_of hwz i
    refine ⟨v, hv, ?_⟩
    have := hcell i (by omega)
    rw [addr_add, e] at this
    exact this

theorem fit_alone {m : List Int} (hm : meaB m = true) {q : Qt} (hq : qokB (m.length : Int) q = true) : gainR (m.length : Int) q 1 = gainL (m.length : Int) q 1 ∧ brB m (gainL (m.length : Int) q 1) = true ∧ (brR m (gainL (m.length : Int) q 1) == 0) = (onI m q.1 * 6 == q.2 * 36) := by
  have hg : gainB (m.length : Int) q 1 = true := by rw [gainB, hq]; rfl
  have hb : brB m (gainL (m.length : Int) q 1) = true := by rw [brB, hm, gain_gok hg, gainL_len, Int.toNat_natCast]; simp
  refine ⟨by rw [gainR, if_pos hg], hb, ?_⟩
  rw [br_yes hb]
  apply bool_eq
  rw [beq_iff_eq, beq_iff_eq, fit_gain hm]
  omega

theorem fit_all {m : List Int} (hm : meaB m = true) {qs : List Qt} {ss : List Int} (hb : balB (m.length : Int) qs ss = true) : balR (m.length : Int) qs ss = balL (m.length : Int) qs ss ∧ brB m (balL (m.length : Int) qs ss) = true ∧ (fitI m qs = true → brR m (balL (m.length : Int) qs ss) = 0) := by
  have h2 : brB m (balL (m.length : Int) qs ss) = true := by rw [brB, hm, bal_gok hb, balL_len, Int.toNat_natCast]; simp
  exact ⟨by rw [balR, if_pos hb], h2, fun hf => by rw [br_yes h2]; exact fit_bal hm hf ss⟩

theorem fit_stp {m : List Int} {qs : List Qt} {k : Nat} {q : Qt} (hx : qs[k]? = some q) : fitI m (qs.take (k + 1)) = (fitI m (qs.take k) && (onI m q.1 * 6 == q.2 * 36)) := by
  rw [fitI, fitI, List.take_add_one, hx]
  simp

/-- k stakes so far, none great -/
def StkRel (w : World) (k : Nat) (p : Value) (wr : World) : Prop := ∃ ss : List Int, IOwn wr w.heap.size p ss ∧ ss.length = k ∧ (∀ s ∈ ss, -9 ≤ s ∧ s ≤ 9) ∧ Below w.heap.size w wr

theorem StkRel.start (w : World) : StkRel w 0 (.slice (some ⟨w.heap.size, 0, none⟩) 0 0) (w.alloc (.cells #[] 3)) :=
  ⟨[], lit_own _ _ (Nat.le_refl _), rfl, (fun s hs => by cases hs), (Below.refl _ _).alloc (Nat.le_refl _) _⟩

theorem StkRel.step {w wr w' : World} {k : Nat} {p p' : Value} {ss : List Int} {s : Int} (hs : ss.length = k) (ha : ∀ s ∈ ss, -9 ≤ s ∧ s ≤ 9) (hw : Below w.heap.size w wr) (ho0 : IOwn wr w.heap.size p ss) (h1 : -9 ≤ s ∧ s ≤ 9) (ho : IOwn w' w.heap.size p' (ss ++ [s])) (hg : wr.grownBy w' p.ownBlock) : StkRel w (k + 1) p' w' :=
  ⟨ss ++ [s], ho, by simp [hs], fun x hx => by
    rcases List.mem_append.1 hx with h | h
    · exact ha x h
    · simp at h; subst h; exact h1, hw.grown hg hw.size (fun g hgg => (ho0.ge g hgg).1)⟩

set_option maxRecDepth 100000 in
set_option maxHeartbeats 8000000 in
theorem FnFitsOk_walk (a0 : Option Addr) (len0 cap0 : Nat) (z0 : List Int) (a1 : Option Addr) (len1 cap1 : Nat) (z1 : List Int) (w : World) (h0 : IsRowC .u8 w a0 len0 cap0 z0) (h1 : IsRowC .u8 w a1 len1 cap1 z1) :
    Calls Try.prog 4 #[.slice a0 len0 cap0, .slice a1 len1 cap1] w fun e w' => e = .returned (.bool true) ∧ Below w.heap.size w w' := by
  by_cases hlen : 1048576 < len0
  · clear h0 h1
    have hlen2 : (1048576 : Int) < (len0 : Int) := by omega
    go_enter Try.func4, Try.ntmps4
    go_wp2
    go_ret
    exact ⟨rfl, Below.refl _ _⟩
  have hlen' : (len0 : Int) ≤ 1048576 := by omega
  by_cases hlen1 : 1048576 < len1
  · clear h0 h1
    have hlen2 : (1048576 : Int) < (len1 : Int) := by omega
    go_enter Try.func4, Try.ntmps4
    go_wp2
    go_ret
    exact ⟨rfl, Below.refl _ _⟩
  · have hlen1' : (len1 : Int) ≤ 1048576 := by omega
    clear hlen hlen1
    go_enter Try.func4, Try.ntmps4
    go_wp2_with fail
    refine (drawFitsOk_any _ _ _ _ _ h0).mono ?_
    rintro e w1 ⟨vm, vq, xs, qs, rfl, ovm1, ovq1, hl4, hl5, B1⟩
    have HC1 := Lib.hid (rowc_keepB h1 B1)
    clear h0 h1
    have zz1 := B1.size
    have hvm : ∀ g, vm.ownBlock = some g → g < w1.heap.size := fun g hg => (ovm1.ge g hg).2
    have hvq : ∀ g, vq.ownBlock = some g → g < w1.heap.size := fun g hg => (ovq1.ge g hg).2
    rcases Bool.eq_false_or_eq_true (meaB xs) with hm | hm
    · rcases Bool.eq_false_or_eq_true (bokB (xs.length : Int) qs) with hb | hb
      · obtain ⟨f, hf⟩ : ∃ f, fitI xs qs = f := ⟨_, rfl⟩
        have HFB : Hid (fitB xs qs = f) := Lib.hid (by rw [fitB, hm, hb, hf]; rfl)
        have HF := Lib.hid hf
        have HM := Lib.hid hm
        have HB := Lib.hid hb
        clear hm hb hf
        obtain ⟨A, c, rfl, hlc, hmx, -⟩ := id ovm1.rd
        obtain ⟨A', c', rfl, hlc', hmx'⟩ := (ovq1.rd qC_len).form
        have C1 : Below w1.heap.size w1 w1 := Below.refl _ _
        go_wp2_with fail
        refine (implFitsOk_any w1 _ _ xs qs (ovm1.rd) (ovq1.rd qC_len)).mono ?_
        rintro e w2 ⟨rfl, b2⟩
        rw [HFB.out]
        have z2 := b2.size
        have B2 := below_step B1 b2 (by omega)
        have ovm2 := ovm1.keep (SameAt.of_below b2)
        have ovq2 := ovq1.keep (SameAt.of_below b2)
        have C2 := below_step C1 b2 (by omega)
        clear C1
        clear B1 b2 ovm1 ovq1
        go_wp2_with fail
        refine (specFitsOk_any w2 _ _ xs qs (ovm2.rd) (ovq2.rd qC_len)).mono ?_
        rintro e w3 ⟨rfl, b3⟩
        rw [HFB.out]
        have z3 := b3.size
        have B3 := below_step B2 b3 (by omega)
        have ovm3 := ovm2.keep (SameAt.of_below b3)
        have ovq3 := ovq2.keep (SameAt.of_below b3)
        have C3 := below_step C2 b3 (by omega)
        clear C2
        clear B2 b3 ovm2 ovq2
        cases f
        · skip
          go_wp2_with fail
          refine (specMeasureOk_any w3 _ xs (ovm3.rd)).mono ?_
          rintro e w' ⟨rfl, rfl⟩
          rw [HM.out]
          go_wp2_with fail
          refine (specBookOk_any w3 (xs.length : Int) _ qs (ovq3.rd qC_len)).mono ?_
          rintro e w4 ⟨rfl, b4⟩
          rw [HB.out]
          have z4 := b4.size
          have B4 := below_step B3 b4 (by omega)
          have ovm4 := ovm3.keep (SameAt.of_below b4)
          have ovq4 := ovq3.keep (SameAt.of_below b4)
          have C4 := below_step C3 b4 (by omega)
          clear C3
          clear B3 b4 ovm3 ovq3
          have HVM := Lib.hid ovm4
          have HVQ := Lib.hid ovq4
          have HBJ := Lib.hid B4
          have HZJ : Hid (w.heap.size ≤ w4.heap.size) := Lib.hid B4.size
          have HCJ := Lib.hid (rowc_keepB HC1.out C4)
          clear ovm4 ovq4 B4 C4 HC1
          have HQ : Hid (∀ q ∈ qs, qokB (xs.length : Int) q = true) := Lib.hid ((bokB_iff _ _).1 HB.out).2.2
          obtain ⟨i0, hi, hz0, hz1, hz2⟩ := info_parts Try_intinfo
          go_wp2_with fail
          go_loopw [8, 9] (fun b i wr => ∃ (k : Nat) (t : Bool), i = .int .i64 (k : Int) ∧ k ≤ qs.length ∧ b = .bool t ∧ Hid (t = fitI xs (qs.take k)) ∧ Hid (Below w4.heap.size w4 wr)) (fun _ i _ => qs.length - (intOf i).toNat)
          case atStart => exact ⟨0, true, rfl, Nat.zero_le _, rfl, Lib.hid (by simp [fitI]), Lib.hid (Below.refl _ _)⟩
          case round =>
            obtain ⟨k, t, rfl, hk, rfl, HT, HW⟩ := hrel
            by_cases hlt : k < qs.length
            · obtain ⟨b, off, ⟨e, p⟩, rfl, -, hx, hc0, hc1⟩ := QRd.at_ (GOwn.rd qC_len (HVQ.out.keep (SameAt.of_below HW.out))) hlt
              have HX := Lib.hid hx
              obtain ⟨k1, k2, k3⟩ := fit_alone HM.out (HQ.out (e, p) (List.mem_of_getElem? hx))
              have HK1 := Lib.hid k1
              have HK2 := Lib.hid k2
              obtain ⟨nb, hnb⟩ : ∃ nb, brR xs (gainL (xs.length : Int) (e, p) 1) = nb := ⟨_, rfl⟩
              rw [hnb] at k3
              have HNB := Lib.hid hnb
              have HK3 := Lib.hid k3
              clear hx k1 k2 k3 hnb
              go_wp2_with fail
              refine (implGainOf_any (xs.length : Int) (e, p) 1 wr).mono ?_
              rintro r wa ⟨vg, rfl, og, ba⟩
              rw [HK1.out] at og
              have HOG := Lib.hid og
              have HA := Lib.hid (below_step HW.out ba HW.out.size)
              clear og ba hc0 hc1
              go_wp2_with fail
              refine (implBringsBy_any wa _ vg xs (gainL (xs.length : Int) (e, p) 1) (HVM.out.keep (SameAt.of_below HA.out)).rd HOG.out.rd).mono ?_
              rintro r wb ⟨rfl, bb⟩
              rw [HNB.out, HK2.out]
              have HBB := Lib.hid (below_step HA.out bb HA.out.size)
              clear bb HOG
              cases t
              · go_wp2_with fail
                go_roundw
                case rel => exact ⟨k + 1, _, by go_num, by omega, rfl, Lib.hid (by rw [fit_stp HX.out, ← HT.out]; rfl), HBB⟩
                case measure => simp [intOf]; omega
              · go_wp2_with fail
                go_roundw
                case rel => exact ⟨k + 1, _, by go_num, by omega, rfl, Lib.hid (by rw [fit_stp HX.out, ← HT.out, Bool.true_and]; exact HK3.out), HBB⟩
                case measure => simp [intOf]; omega
            · have htt := HT.out
              rw [List.take_of_length_le (by omega), HF.out] at htt
              subst htt
              have H0 : Hid (StkRel wr 0 (.slice (some ⟨wr.heap.size, 0, none⟩) 0 0) (wr.alloc (.cells #[] 3))) := Lib.hid (StkRel.start wr)
              clear HT
              have HCR := Lib.hid (rowc_keepB HCJ.out HW.out)
              have HVM2 := Lib.hid (HVM.out.keep (SameAt.of_below HW.out))
              have HVQ2 := Lib.hid (HVQ.out.keep (SameAt.of_below HW.out))
              have HBW := Lib.hid (below_step HBJ.out HW.out HZJ.out)
              clear HW HVM HVQ HCJ HBJ
              generalize wr = wj at *
              by_cases hp : 0 < len1
              · have hp2 : (0 : Int) < (len1 : Int) := by omega
                have hp3 : ((len1 : Int) == 0) = false := by rw [beq_eq_false_iff_ne]; omega
                obtain ⟨bb, off, rfl, hbyte⟩ := row_byte HCR.out hp
                have HBY := Lib.hid hbyte
                clear hbyte
                go_wp2_with fail
                go_loopw [12, 13] (fun p i wr => ∃ k : Nat, i = .int .i64 (k : Int) ∧ k ≤ qs.length ∧ Hid (StkRel wj k p wr)) (fun _ i _ => qs.length - (intOf i).toNat)
                case atStart => exact ⟨0, rfl, Nat.zero_le _, H0⟩
                case round =>
                  obtain ⟨k, rfl, hk, HS⟩ := hrel
                  clear H0
                  by_cases hlt : k < qs.length
                  · obtain ⟨ss, os, hs1, hs2, hs3⟩ := id HS.out
                    have HO := Lib.hid os
                    have HS1 := Lib.hid hs1
                    have HS2 := Lib.hid hs2
                    have HS3 := Lib.hid hs3
                    have m1 : k % len1 < len1 := Nat.mod_lt _ hp
                    obtain ⟨v, hv, hcv⟩ := HBY.out (k % len1) m1
                    obtain ⟨i1, hi1⟩ : ∃ i : Nat, k % len1 = i := ⟨_, rfl⟩
                    rw [hi1] at m1 hcv
                    have e1 : (k : Int).tmod (len1 : Int) = (i1 : Int) := by rw [Int.tmod_eq_emod_of_nonneg (by omega), ← hi1]; rfl
                    have m2 : (i1 : Int) < (len1 : Int) := by omega
                    have hlt1 : bb < wj.heap.size := World.block_lt_of_cell? wj _ hcv
                    have hcv2 : wr.cell? ⟨bb, off + i1, none⟩ = some (.int .u8 (v : Int)) := (hs3.cell (p := ⟨bb, off + i1, none⟩) hlt1).trans hcv
                    have hv2 : (0 : Int) ≤ (v : Int) := by omega
                    have hv3 : (v : Int) ≤ 255 := by omega
                    obtain ⟨s, hse⟩ : ∃ s : Int, (v : Int) % 9 - 4 = s := ⟨_, rfl⟩
                    have hsb : -9 ≤ s ∧ s ≤ 9 := by omega
                    have HSE := Lib.hid hse
                    have HSB := Lib.hid hsb
                    clear hcv hi1 hse hsb hlt1
                    have hown0 := os
                    unfold IOwn at hown0
                    rw [hs1] at hown0
                    have hown := Lib.hid (World.ownsRow.alloc (w := wr) hown0 (.cells #[.int .i64 ((v : Int) % 9 - 4)] 3))
                    have hsz := hs3.size
                    clear hown0 os hs1 hs2 hs3
                    go_wp2_with (at_builtin; refine wpList_append_own _ rfl _ _ 23 rfl wj.heap.size 3 i0 (.int .i64 0) 1 8 Try.underlying23 hi hz0 hz1 hz2 rfl (by decide) _ _ _ rfl hown.out ⟨wr.heap.size, 0, none⟩ 1 1 [.int .i64 ((v : Int) % 9 - 4)] rfl rfl ?c1 one_int ?c3 ?c4 ?c5 ?_)
                    case c1 => exact one_new wr _ _
                    case c3 => unfold maxLen; omega
                    case c4 => omega
                    case c5 => simp; omega
                    intro v' w' hown' hgrow _
                    have HL := Lib.hid (StkRel.step HS1.out HS2.out HS3.out HO.out (s := ((v : Int) % 9 - 4)) (by have h1 := HSE.out; have h2 := HSB.out; omega) (show IOwn w' wj.heap.size v' (ss ++ [((v : Int) % 9 - 4)]) from by simpa [IOwn, HS1.out] using hown') (grown_after (w := wr) ((Below.refl _ wr).alloc (Nat.le_refl _) _) hgrow))
                    clear hown' hgrow hown
                    go_wp2_with fail
                    go_roundw
                    case rel => exact ⟨k + 1, by go_num, by omega, HL⟩
                    case measure => simp [intOf]; omega
                  · obtain ⟨ss, os, hs1, hs2, hs3⟩ := id HS.out
                    have hkq : k = qs.length := by omega
                    have HO := Lib.hid os
                    have HBAL : Hid (balB (xs.length : Int) qs ss = true) := Lib.hid ((balB_iff _ _ _).2 ⟨HB.out, by omega, hs2⟩)
                    have HS3 := Lib.hid hs3
                    obtain ⟨g1, g2, g3⟩ := fit_all HM.out HBAL.out
                    have HG1 := Lib.hid g1
                    have HG2 := Lib.hid g2
                    obtain ⟨nn, hnn⟩ : ∃ nn, brR xs (balL (xs.length : Int) qs ss) = nn := ⟨_, rfl⟩
                    rw [hnn, HF.out] at g3
                    have HNN := Lib.hid hnn
                    clear os hs1 hs2 hs3 g1 g2 hnn
                    obtain ⟨ss2, hss2⟩ : ∃ ss2, ss = ss2 := ⟨_, rfl⟩
                    clear hss2 ss2
                    go_wp2_with fail
                    refine (implBalanceOf_any wr (xs.length : Int) _ _ qs ss (GOwn.rd qC_len (HVQ2.out.keep (SameAt.of_below HS3.out))) HO.out.rd).mono ?_
                    rintro r wa ⟨vg, rfl, og, ba⟩
                    rw [HG1.out] at og
                    rw [HBAL.out]
                    have HOG := Lib.hid og
                    have HA := Lib.hid (below_step HS3.out ba HS3.out.size)
                    clear og ba
                    go_wp2_with fail
                    refine (implBringsBy_any wa _ vg xs (balL (xs.length : Int) qs ss) (HVM2.out.keep (SameAt.of_below HA.out)).rd HOG.out.rd).mono ?_
                    rintro r wb ⟨rfl, bb⟩
                    rw [HNN.out, HG2.out]
                    have HBB := Lib.hid (below_step HA.out bb HA.out.size)
                    clear bb HOG
                    have hend := g3
                    clear hend g3
                    go_wp2_with fail
                    go_ret
                    exact ⟨rfl, below_step HBW.out HBB.out HBW.out.size⟩
              · have hp2 : (len1 : Int) ≤ 0 := by omega
                go_wp2_with fail
                go_loopw [12, 13] (fun p i wr => ∃ k : Nat, i = .int .i64 (k : Int) ∧ k ≤ qs.length ∧ Hid (StkRel wj k p wr)) (fun _ i _ => qs.length - (intOf i).toNat)
                case atStart => exact ⟨0, rfl, Nat.zero_le _, H0⟩
                case round =>
                  obtain ⟨k, rfl, hk, HS⟩ := hrel
                  clear H0
                  by_cases hlt : k < qs.length
                  · obtain ⟨ss, os, hs1, hs2, hs3⟩ := id HS.out
                    have HO := Lib.hid os
                    have HS1 := Lib.hid hs1
                    have HS2 := Lib.hid hs2
                    have HS3 := Lib.hid hs3
                    have hown0 := os
                    unfold IOwn at hown0
                    rw [hs1] at hown0
                    have hown := Lib.hid (World.ownsRow.alloc (w := wr) hown0 (.cells #[.int .i64 1] 3))
                    have hsz := hs3.size
                    clear hown0 os hs1 hs2 hs3
                    go_wp2_with (at_builtin; refine wpList_append_own _ rfl _ _ 23 rfl wj.heap.size 3 i0 (.int .i64 0) 1 8 Try.underlying23 hi hz0 hz1 hz2 rfl (by decide) _ _ _ rfl hown.out ⟨wr.heap.size, 0, none⟩ 1 1 [.int .i64 1] rfl rfl ?c1 one_int ?c3 ?c4 ?c5 ?_)
                    case c1 => exact one_new wr _ _
                    case c3 => unfold maxLen; omega
                    case c4 => omega
                    case c5 => simp; omega
                    intro v' w' hown' hgrow _
                    have HL := Lib.hid (StkRel.step HS1.out HS2.out HS3.out HO.out (s := 1) (by omega) (show IOwn w' wj.heap.size v' (ss ++ [1]) from by simpa [IOwn, HS1.out] using hown') (grown_after (w := wr) ((Below.refl _ wr).alloc (Nat.le_refl _) _) hgrow))
                    clear hown' hgrow hown
                    go_wp2_with fail
                    go_roundw
                    case rel => exact ⟨k + 1, by go_num, by omega, HL⟩
                    case measure => simp [intOf]; omega
                  · obtain ⟨ss, os, hs1, hs2, hs3⟩ := id HS.out
                    have hkq : k = qs.length := by omega
                    have HO := Lib.hid os
                    have HBAL : Hid (balB (xs.length : Int) qs ss = true) := Lib.hid ((balB_iff _ _ _).2 ⟨HB.out, by omega, hs2⟩)
                    have HS3 := Lib.hid hs3
                    obtain ⟨g1, g2, g3⟩ := fit_all HM.out HBAL.out
                    have HG1 := Lib.hid g1
                    have HG2 := Lib.hid g2
                    obtain ⟨nn, hnn⟩ : ∃ nn, brR xs (balL (xs.length : Int) qs ss) = nn := ⟨_, rfl⟩
                    rw [hnn, HF.out] at g3
                    have HNN := Lib.hid hnn
                    clear os hs1 hs2 hs3 g1 g2 hnn
                    obtain ⟨ss2, hss2⟩ : ∃ ss2, ss = ss2 := ⟨_, rfl⟩
                    clear hss2 ss2
                    go_wp2_with fail
                    refine (implBalanceOf_any wr (xs.length : Int) _ _ qs ss (GOwn.rd qC_len (HVQ2.out.keep (SameAt.of_below HS3.out))) HO.out.rd).mono ?_
                    rintro r wa ⟨vg, rfl, og, ba⟩
                    rw [HG1.out] at og
                    rw [HBAL.out]
                    have HOG := Lib.hid og
                    have HA := Lib.hid (below_step HS3.out ba HS3.out.size)
                    clear og ba
                    go_wp2_with fail
                    refine (implBringsBy_any wa _ vg xs (balL (xs.length : Int) qs ss) (HVM2.out.keep (SameAt.of_below HA.out)).rd HOG.out.rd).mono ?_
                    rintro r wb ⟨rfl, bb⟩
                    rw [HNN.out, HG2.out]
                    have HBB := Lib.hid (below_step HA.out bb HA.out.size)
                    clear bb HOG
                    have hend := g3
                    clear hend g3
                    go_wp2_with fail
                    go_ret
                    exact ⟨rfl, below_step HBW.out HBB.out HBW.out.size⟩
        · skip
          go_wp2_with fail
          refine (specMeasureOk_any w3 _ xs (ovm3.rd)).mono ?_
          rintro e w' ⟨rfl, rfl⟩
          rw [HM.out]
          go_wp2_with fail
          refine (specBookOk_any w3 (xs.length : Int) _ qs (ovq3.rd qC_len)).mono ?_
          rintro e w4 ⟨rfl, b4⟩
          rw [HB.out]
          have z4 := b4.size
          have B4 := below_step B3 b4 (by omega)
          have ovm4 := ovm3.keep (SameAt.of_below b4)
          have ovq4 := ovq3.keep (SameAt.of_below b4)
          have C4 := below_step C3 b4 (by omega)
          clear C3
          clear B3 b4 ovm3 ovq3
          have HVM := Lib.hid ovm4
          have HVQ := Lib.hid ovq4
          have HBJ := Lib.hid B4
          have HZJ : Hid (w.heap.size ≤ w4.heap.size) := Lib.hid B4.size
          have HCJ := Lib.hid (rowc_keepB HC1.out C4)
          clear ovm4 ovq4 B4 C4 HC1
          have HQ : Hid (∀ q ∈ qs, qokB (xs.length : Int) q = true) := Lib.hid ((bokB_iff _ _).1 HB.out).2.2
          obtain ⟨i0, hi, hz0, hz1, hz2⟩ := info_parts Try_intinfo
          go_wp2_with fail
          go_loopw [8, 9] (fun b i wr => ∃ (k : Nat) (t : Bool), i = .int .i64 (k : Int) ∧ k ≤ qs.length ∧ b = .bool t ∧ Hid (t = fitI xs (qs.take k)) ∧ Hid (Below w4.heap.size w4 wr)) (fun _ i _ => qs.length - (intOf i).toNat)
          case atStart => exact ⟨0, true, rfl, Nat.zero_le _, rfl, Lib.hid (by simp [fitI]), Lib.hid (Below.refl _ _)⟩
          case round =>
            obtain ⟨k, t, rfl, hk, rfl, HT, HW⟩ := hrel
            by_cases hlt : k < qs.length
            · obtain ⟨b, off, ⟨e, p⟩, rfl, -, hx, hc0, hc1⟩ := QRd.at_ (GOwn.rd qC_len (HVQ.out.keep (SameAt.of_below HW.out))) hlt
              have HX := Lib.hid hx
              obtain ⟨k1, k2, k3⟩ := fit_alone HM.out (HQ.out (e, p) (List.mem_of_getElem? hx))
              have HK1 := Lib.hid k1
              have HK2 := Lib.hid k2
              obtain ⟨nb, hnb⟩ : ∃ nb, brR xs (gainL (xs.length : Int) (e, p) 1) = nb := ⟨_, rfl⟩
              rw [hnb] at k3
              have HNB := Lib.hid hnb
              have HK3 := Lib.hid k3
              clear hx k1 k2 k3 hnb
              go_wp2_with fail
              refine (implGainOf_any (xs.length : Int) (e, p) 1 wr).mono ?_
              rintro r wa ⟨vg, rfl, og, ba⟩
              rw [HK1.out] at og
              have HOG := Lib.hid og
              have HA := Lib.hid (below_step HW.out ba HW.out.size)
              clear og ba hc0 hc1
              go_wp2_with fail
              refine (implBringsBy_any wa _ vg xs (gainL (xs.length : Int) (e, p) 1) (HVM.out.keep (SameAt.of_below HA.out)).rd HOG.out.rd).mono ?_
              rintro r wb ⟨rfl, bb⟩
              rw [HNB.out, HK2.out]
              have HBB := Lib.hid (below_step HA.out bb HA.out.size)
              clear bb HOG
              cases t
              · go_wp2_with fail
                go_roundw
                case rel => exact ⟨k + 1, _, by go_num, by omega, rfl, Lib.hid (by rw [fit_stp HX.out, ← HT.out]; rfl), HBB⟩
                case measure => simp [intOf]; omega
              · go_wp2_with fail
                go_roundw
                case rel => exact ⟨k + 1, _, by go_num, by omega, rfl, Lib.hid (by rw [fit_stp HX.out, ← HT.out, Bool.true_and]; exact HK3.out), HBB⟩
                case measure => simp [intOf]; omega
            · have htt := HT.out
              rw [List.take_of_length_le (by omega), HF.out] at htt
              subst htt
              have H0 : Hid (StkRel wr 0 (.slice (some ⟨wr.heap.size, 0, none⟩) 0 0) (wr.alloc (.cells #[] 3))) := Lib.hid (StkRel.start wr)
              clear HT
              have HCR := Lib.hid (rowc_keepB HCJ.out HW.out)
              have HVM2 := Lib.hid (HVM.out.keep (SameAt.of_below HW.out))
              have HVQ2 := Lib.hid (HVQ.out.keep (SameAt.of_below HW.out))
              have HBW := Lib.hid (below_step HBJ.out HW.out HZJ.out)
              clear HW HVM HVQ HCJ HBJ
              generalize wr = wj at *
              by_cases hp : 0 < len1
              · have hp2 : (0 : Int) < (len1 : Int) := by omega
                have hp3 : ((len1 : Int) == 0) = false := by rw [beq_eq_false_iff_ne]; omega
                obtain ⟨bb, off, rfl, hbyte⟩ := row_byte HCR.out hp
                have HBY := Lib.hid hbyte
                clear hbyte
                go_wp2_with fail
                go_loopw [12, 13] (fun p i wr => ∃ k : Nat, i = .int .i64 (k : Int) ∧ k ≤ qs.length ∧ Hid (StkRel wj k p wr)) (fun _ i _ => qs.length - (intOf i).toNat)
                case atStart => exact ⟨0, rfl, Nat.zero_le _, H0⟩
                case round =>
                  obtain ⟨k, rfl, hk, HS⟩ := hrel
                  clear H0
                  by_cases hlt : k < qs.length
                  · obtain ⟨ss, os, hs1, hs2, hs3⟩ := id HS.out
                    have HO := Lib.hid os
                    have HS1 := Lib.hid hs1
                    have HS2 := Lib.hid hs2
                    have HS3 := Lib.hid hs3
                    have m1 : k % len1 < len1 := Nat.mod_lt _ hp
                    obtain ⟨v, hv, hcv⟩ := HBY.out (k % len1) m1
                    obtain ⟨i1, hi1⟩ : ∃ i : Nat, k % len1 = i := ⟨_, rfl⟩
                    rw [hi1] at m1 hcv
                    have e1 : (k : Int).tmod (len1 : Int) = (i1 : Int) := by rw [Int.tmod_eq_emod_of_nonneg (by omega), ← hi1]; rfl
                    have m2 : (i1 : Int) < (len1 : Int) := by omega
                    have hlt1 : bb < wj.heap.size := World.block_lt_of_cell? wj _ hcv
                    have hcv2 : wr.cell? ⟨bb, off + i1, none⟩ = some (.int .u8 (v : Int)) := (hs3.cell (p := ⟨bb, off + i1, none⟩) hlt1).trans hcv
                    have hv2 : (0 : Int) ≤ (v : Int) := by omega
                    have hv3 : (v : Int) ≤ 255 := by omega
                    obtain ⟨s, hse⟩ : ∃ s : Int, (v : Int) % 9 - 4 = s := ⟨_, rfl⟩
                    have hsb : -9 ≤ s ∧ s ≤ 9 := by omega
                    have HSE := Lib.hid hse
                    have HSB := Lib.hid hsb
                    clear hcv hi1 hse hsb hlt1
                    have hown0 := os
                    unfold IOwn at hown0
                    rw [hs1] at hown0
                    have hown := Lib.hid (World.ownsRow.alloc (w := wr) hown0 (.cells #[.int .i64 ((v : Int) % 9 - 4)] 3))
                    have hsz := hs3.size
                    clear hown0 os hs1 hs2 hs3
                    go_wp2_with (at_builtin; refine wpList_append_own _ rfl _ _ 23 rfl wj.heap.size 3 i0 (.int .i64 0) 1 8 Try.underlying23 hi hz0 hz1 hz2 rfl (by decide) _ _ _ rfl hown.out ⟨wr.heap.size, 0, none⟩ 1 1 [.int .i64 ((v : Int) % 9 - 4)] rfl rfl ?c1 one_int ?c3 ?c4 ?c5 ?_)
                    case c1 => exact one_new wr _ _
                    case c3 => unfold maxLen; omega
                    case c4 => omega
                    case c5 => simp; omega
                    intro v' w' hown' hgrow _
                    have HL := Lib.hid (StkRel.step HS1.out HS2.out HS3.out HO.out (s := ((v : Int) % 9 - 4)) (by have h1 := HSE.out; have h2 := HSB.out; omega) (show IOwn w' wj.heap.size v' (ss ++ [((v : Int) % 9 - 4)]) from by simpa [IOwn, HS1.out] using hown') (grown_after (w := wr) ((Below.refl _ wr).alloc (Nat.le_refl _) _) hgrow))
                    clear hown' hgrow hown
                    go_wp2_with fail
                    go_roundw
                    case rel => exact ⟨k + 1, by go_num, by omega, HL⟩
                    case measure => simp [intOf]; omega
                  · obtain ⟨ss, os, hs1, hs2, hs3⟩ := id HS.out
                    have hkq : k = qs.length := by omega
                    have HO := Lib.hid os
                    have HBAL : Hid (balB (xs.length : Int) qs ss = true) := Lib.hid ((balB_iff _ _ _).2 ⟨HB.out, by omega, hs2⟩)
                    have HS3 := Lib.hid hs3
                    obtain ⟨g1, g2, g3⟩ := fit_all HM.out HBAL.out
                    have HG1 := Lib.hid g1
                    have HG2 := Lib.hid g2
                    obtain ⟨nn, hnn⟩ : ∃ nn, brR xs (balL (xs.length : Int) qs ss) = nn := ⟨_, rfl⟩
                    rw [hnn, HF.out] at g3
                    have HNN := Lib.hid hnn
                    clear os hs1 hs2 hs3 g1 g2 hnn
                    obtain ⟨ss2, hss2⟩ : ∃ ss2, ss = ss2 := ⟨_, rfl⟩
                    clear hss2 ss2
                    go_wp2_with fail
                    refine (implBalanceOf_any wr (xs.length : Int) _ _ qs ss (GOwn.rd qC_len (HVQ2.out.keep (SameAt.of_below HS3.out))) HO.out.rd).mono ?_
                    rintro r wa ⟨vg, rfl, og, ba⟩
                    rw [HG1.out] at og
                    rw [HBAL.out]
                    have HOG := Lib.hid og
                    have HA := Lib.hid (below_step HS3.out ba HS3.out.size)
                    clear og ba
                    go_wp2_with fail
                    refine (implBringsBy_any wa _ vg xs (balL (xs.length : Int) qs ss) (HVM2.out.keep (SameAt.of_below HA.out)).rd HOG.out.rd).mono ?_
                    rintro r wb ⟨rfl, bb⟩
                    rw [HNN.out, HG2.out]
                    have HBB := Lib.hid (below_step HA.out bb HA.out.size)
                    clear bb HOG
                    have hend := g3
                    have h0 : nn = 0 := by simpa using hend
                    have HZ : Hid ((nn == 0) = true) := Lib.hid (by simp [h0])
                    clear h0 hend g3
                    go_wp2_with fail
                    go_ret
                    exact ⟨ret_bool HZ.out, below_step HBW.out HBB.out HBW.out.size⟩
              · have hp2 : (len1 : Int) ≤ 0 := by omega
                go_wp2_with fail
                go_loopw [12, 13] (fun p i wr => ∃ k : Nat, i = .int .i64 (k : Int) ∧ k ≤ qs.length ∧ Hid (StkRel wj k p wr)) (fun _ i _ => qs.length - (intOf i).toNat)
                case atStart => exact ⟨0, rfl, Nat.zero_le _, H0⟩
                case round =>
                  obtain ⟨k, rfl, hk, HS⟩ := hrel
                  clear H0
                  by_cases hlt : k < qs.length
                  · obtain ⟨ss, os, hs1, hs2, hs3⟩ := id HS.out
                    have HO := Lib.hid os
                    have HS1 := Lib.hid hs1
                    have HS2 := Lib.hid hs2
                    have HS3 := Lib.hid hs3
                    have hown0 := os
                    unfold IOwn at hown0
                    rw [hs1] at hown0
                    have hown := Lib.hid (World.ownsRow.alloc (w := wr) hown0 (.cells #[.int .i64 1] 3))
                    have hsz := hs3.size
                    clear hown0 os hs1 hs2 hs3
                    go_wp2_with (at_builtin; refine wpList_append_own _ rfl _ _ 23 rfl wj.heap.size 3 i0 (.int .i64 0) 1 8 Try.underlying23 hi hz0 hz1 hz2 rfl (by decide) _ _ _ rfl hown.out ⟨wr.heap.size, 0, none⟩ 1 1 [.int .i64 1] rfl rfl ?c1 one_int ?c3 ?c4 ?c5 ?_)
                    case c1 => exact one_new wr _ _
                    case c3 => unfold maxLen; omega
                    case c4 => omega
                    case c5 => simp; omega
                    intro v' w' hown' hgrow _
                    have HL := Lib.hid (StkRel.step HS1.out HS2.out HS3.out HO.out (s := 1) (by omega) (show IOwn w' wj.heap.size v' (ss ++ [1]) from by simpa [IOwn, HS1.out] using hown') (grown_after (w := wr) ((Below.refl _ wr).alloc (Nat.le_refl _) _) hgrow))
                    clear hown' hgrow hown
                    go_wp2_with fail
                    go_roundw
                    case rel => exact ⟨k + 1, by go_num, by omega, HL⟩
                    case measure => simp [intOf]; omega
                  · obtain ⟨ss, os, hs1, hs2, hs3⟩ := id HS.out
                    have hkq : k = qs.length := by omega
                    have HO := Lib.hid os
                    have HBAL : Hid (balB (xs.length : Int) qs ss = true) := Lib.hid ((balB_iff _ _ _).2 ⟨HB.out, by omega, hs2⟩)
                    have HS3 := Lib.hid hs3
                    obtain ⟨g1, g2, g3⟩ := fit_all HM.out HBAL.out
                    have HG1 := Lib.hid g1
                    have HG2 := Lib.hid g2
                    obtain ⟨nn, hnn⟩ : ∃ nn, brR xs (balL (xs.length : Int) qs ss) = nn := ⟨_, rfl⟩
                    rw [hnn, HF.out] at g3
                    have HNN := Lib.hid hnn
                    clear os hs1 hs2 hs3 g1 g2 hnn
                    obtain ⟨ss2, hss2⟩ : ∃ ss2, ss = ss2 := ⟨_, rfl⟩
                    clear hss2 ss2
                    go_wp2_with fail
                    refine (implBalanceOf_any wr (xs.length : Int) _ _ qs ss (GOwn.rd qC_len (HVQ2.out.keep (SameAt.of_below HS3.out))) HO.out.rd).mono ?_
                    rintro r wa ⟨vg, rfl, og, ba⟩
                    rw [HG1.out] at og
                    rw [HBAL.out]
                    have HOG := Lib.hid og
                    have HA := Lib.hid (below_step HS3.out ba HS3.out.size)
                    clear og ba
                    go_wp2_with fail
                    refine (implBringsBy_any wa _ vg xs (balL (xs.length : Int) qs ss) (HVM2.out.keep (SameAt.of_below HA.out)).rd HOG.out.rd).mono ?_
                    rintro r wb ⟨rfl, bb⟩
                    rw [HNN.out, HG2.out]
                    have HBB := Lib.hid (below_step HA.out bb HA.out.size)
                    clear bb HOG
                    have hend := g3
                    have h0 : nn = 0 := by simpa using hend
                    have HZ : Hid ((nn == 0) = true) := Lib.hid (by simp [h0])
                    clear h0 hend g3
                    go_wp2_with fail
                    go_ret
                    exact ⟨ret_bool HZ.out, below_step HBW.out HBB.out HBW.out.size⟩
      · have HFB : Hid (fitB xs qs = false) := Lib.hid (by rw [fitB, hm, hb]; rfl)
        have HM := Lib.hid hm
        have HB := Lib.hid hb
        clear hm hb HC1
        obtain ⟨A, c, rfl, hlc, hmx, -⟩ := id ovm1.rd
        go_wp2_with fail
        refine (implFitsOk_any w1 _ _ xs qs (ovm1.rd) (ovq1.rd qC_len)).mono ?_
        rintro e w2 ⟨rfl, b2⟩
        rw [HFB.out]
        have z2 := b2.size
        have B2 := below_step B1 b2 (by omega)
        have ovm2 := ovm1.keep (SameAt.of_below b2)
        have ovq2 := ovq1.keep (SameAt.of_below b2)
        clear B1 b2 ovm1 ovq1
        go_wp2_with fail
        refine (specFitsOk_any w2 _ _ xs qs (ovm2.rd) (ovq2.rd qC_len)).mono ?_
        rintro e w3 ⟨rfl, b3⟩
        rw [HFB.out]
        have z3 := b3.size
        have B3 := below_step B2 b3 (by omega)
        have ovm3 := ovm2.keep (SameAt.of_below b3)
        have ovq3 := ovq2.keep (SameAt.of_below b3)
        clear B2 b3 ovm2 ovq2
        go_wp2_with fail
        refine (specMeasureOk_any w3 _ xs (ovm3.rd)).mono ?_
        rintro e w' ⟨rfl, rfl⟩
        rw [HM.out]
        go_wp2_with fail
        refine (specBookOk_any w3 (xs.length : Int) _ qs (ovq3.rd qC_len)).mono ?_
        rintro e w4 ⟨rfl, b4⟩
        rw [HB.out]
        have z4 := b4.size
        have B4 := below_step B3 b4 (by omega)
        have ovm4 := ovm3.keep (SameAt.of_below b4)
        have ovq4 := ovq3.keep (SameAt.of_below b4)
        clear B3 b4 ovm3 ovq3
        go_wp2_with fail
        refine (alive_any _).mono ?_
        rintro e w' ⟨rfl, rfl⟩
        go_wp2_with fail
        go_ret
        exact ⟨rfl, B4⟩
    · have HFB : Hid (fitB xs qs = false) := Lib.hid (by rw [fitB, hm]; rfl)
      have HM := Lib.hid hm
      clear hm HC1
      go_wp2_with fail
      refine (implFitsOk_any w1 _ _ xs qs (ovm1.rd) (ovq1.rd qC_len)).mono ?_
      rintro e w2 ⟨rfl, b2⟩
      rw [HFB.out]
      have z2 := b2.size
      have B2 := below_step B1 b2 (by omega)
      have ovm2 := ovm1.keep (SameAt.of_below b2)
      have ovq2 := ovq1.keep (SameAt.of_below b2)
      clear B1 b2 ovm1 ovq1
      go_wp2_with fail
      refine (specFitsOk_any w2 _ _ xs qs (ovm2.rd) (ovq2.rd qC_len)).mono ?_
      rintro e w3 ⟨rfl, b3⟩
      rw [HFB.out]
      have z3 := b3.size
      have B3 := below_step B2 b3 (by omega)
      have ovm3 := ovm2.keep (SameAt.of_below b3)
      have ovq3 := ovq2.keep (SameAt.of_below b3)
      clear B2 b3 ovm2 ovq2
      go_wp2_with fail
      refine (specMeasureOk_any w3 _ xs (ovm3.rd)).mono ?_
      rintro e w' ⟨rfl, rfl⟩
      rw [HM.out]
      go_wp2_with fail
      refine (alive_any _).mono ?_
      rintro e w' ⟨rfl, rfl⟩
      go_wp2_with fail
      go_ret
      exact ⟨rfl, B3⟩

end Go.Proofs.Ytnbkpfmcnjgfdaa
