/- The walk of the law of BalanceOf. Conditions: rows of bytes that came in. -/
import Derived.Test.YtdgaakdlnihejaaQo
import Derived.Deep.RegionHeld3
namespace Go.Proofs.Ytdgaakdlnihejaa
open Go.RowKit
set_option linter.unusedVariables false

theorem QRd.cell {w : World} {b off n c : Nat} {qs : List Qt} {k : Nat} {q : Qt} (h : QRd w (.slice (some ⟨b, off, none⟩) n c) qs) (hq : qs[k]? = some q) : w.cell? ⟨b, off + k * 2, none⟩ = some (.int .i64 q.1) ∧ w.cell? ⟨b, off + k * 2 + 1, none⟩ = some (.int .i64 q.2) := by
  have hk : k < qs.length := (List.getElem?_eq_some_iff.1 hq).1
  obtain ⟨A, cp, e, hl, hm, hc⟩ := h
  injection e with e1 e2 e3
  obtain ⟨b', off', hA, -, hcell⟩ := hc (by omega)
  rw [← e1] at hA
  injection hA with hA
  injection hA with hb ho
  subst hb
  subst ho
  exact ⟨hcell k q hq 0 _ rfl, hcell k q hq 1 _ rfl⟩

theorem IRd.cellk {w : World} {b off n c : Nat} {xs : List Int} {k : Nat} {x : Int} (h : IRd w (.slice (some ⟨b, off, none⟩) n c) xs) (hx : xs[k]? = some x) : w.cell? ⟨b, off + k, none⟩ = some (.int .i64 x) := by
  have hk : k < xs.length := (List.getElem?_eq_some_iff.1 hx).1
  obtain ⟨A, c, e, hl, hm, hc⟩ := h
  injection e with e1 e2 e3
  obtain ⟨b', off', hA, -, hcell⟩ := hc (by omega)
  rw [← e1] at hA
  injection hA with hA
  injection hA with hb ho
  subst hb
  subst ho
  exact hcell k x hx

def negL (ss : List Int) : List Int := ss.map fun x => -x

theorem negL_at {ss : List Int} {k : Nat} {x : Int} (h : ss[k]? = some x) : (negL ss)[k]? = some (-x) := by simp [negL, h]

/-- what the law wants where there are quotes -/
theorem bal_law {n : Int} {qs : List Qt} {ss : List Int} (h : balB n qs ss = true) {k : Nat} (hk : qs.length = k + 1) :
    ∃ q s, qs[k]? = some q ∧ ss[k]? = some s ∧ gainB n q s = true ∧ balB n (qs.take k) (ss.take k) = true ∧
      sumB (balL n (qs.take k) (ss.take k)) (gainL n q s) = true ∧ sumR (balL n (qs.take k) (ss.take k)) (gainL n q s) = balL n qs ss ∧
      balR n qs (negL ss) = mulL (balL n qs ss) (-1) ∧ balB n qs (negL ss) = true ∧ timesB (balL n qs ss) (-1) = true ∧ timesR (balL n qs ss) (-1) = mulL (balL n qs ss) (-1) := by
  obtain ⟨-, h2, -⟩ := (balB_iff _ _ _).1 h
  have hq : qs[k]? = some (qs[k]'(by omega)) := List.getElem?_eq_getElem (by omega)
  have hs : ss[k]? = some (ss[k]'(by omega)) := List.getElem?_eq_getElem (by omega)
  obtain ⟨q, hq'⟩ : ∃ q, qs[k]'(by omega) = q := ⟨_, rfl⟩
  obtain ⟨s, hs'⟩ : ∃ s, ss[k]'(by omega) = s := ⟨_, rfl⟩
  rw [hq'] at hq
  rw [hs'] at hs
  have e1 : qs.take k ++ [q] = qs := by
    have := List.take_add_one (l := qs) (i := k)
    rw [hq, ← hk, List.take_length] at this
    exact this.symm
  have e2 : ss.take k ++ [s] = ss := by
    have := List.take_add_one (l := ss) (i := k)
    rw [hs, ← hk, ← h2, List.take_length] at this
    exact this.symm
  have h' : balB n (qs.take k ++ [q]) (ss.take k ++ [s]) = true := by rw [e1, e2]; exact h
  obtain ⟨b1, b2, b3, b4⟩ := bal_last h'
  rw [e1, e2] at b4
  obtain ⟨c1, c2⟩ := bal_neg h
  have d1 := times_gok (bal_gok h) (t := -1) (.inr (.inl rfl))
  refine ⟨q, s, hq, hs, b2, b1, b3, by rw [sum_yes b3, b4], ?_, c1, d1, times_is d1⟩
  show balR n qs (ss.map fun x => -x) = _
  rw [balR_yes c1, c2]

set_option maxRecDepth 100000 in
set_option maxHeartbeats 8000000 in
theorem FnBalanceOf_walk (a0 : Option Addr) (len0 cap0 : Nat) (z0 : List Int) (w : World) (w0 : IsRowC .u8 w a0 len0 cap0 z0) :
    Calls Try.prog 7 #[.slice a0 len0 cap0] w fun e w' => e = .returned (.bool true) ∧ Below w.heap.size w w' := by
  by_cases hlen : 1048576 < len0
  · clear w0
    go_enter Try.func7, Try.ntmps7
    go_wp2
    go_ret
    exact ⟨rfl, Below.refl _ _⟩
  · have hlen' : decide (1048576 < len0) = false := by simpa using hlen
    go_enter Try.func7, Try.ntmps7
    go_wp2_with fail
    refine (drawBalanceOf_any _ _ _ _ _ w0).mono ?_
    rintro e w1 ⟨n, vb, vu, qs, ss, rfl, ovb1, ovu1, hl4, hl8, B1⟩
    clear hlen hlen' w0
    have z1 := B1.size
    have hvu : ∀ g, vu.ownBlock = some g → g < w1.heap.size := fun g hg => (ovu1.ge g hg).2
    have hvb : ∀ g, vb.ownBlock = some g → g < w1.heap.size := fun g hg => (ovb1.ge g hg).2
    obtain ⟨A, c, rfl, hlc, hm⟩ := (ovb1.rd qC_len).form
    obtain ⟨A2, c2, rfl, hlc2, hm2, -⟩ := id ovu1.rd
    rcases Bool.eq_false_or_eq_true (balB n qs ss) with ht | ht
    · have HT := Lib.hid ht
      have HR := Lib.hid (balR_yes ht)
      have HG := Lib.hid (bal_gok ht)
      have hn1 : 1 ≤ n := (bal_wok ht).1
      have hn2 : n ≤ 4 := (bal_wok ht).2
      have HLS := Lib.hid ((balB_iff _ _ _).1 ht).2.1
      have HSS : Hid (∀ x ∈ ss, -9 ≤ x ∧ x ≤ 9) := Lib.hid ((balB_iff _ _ _).1 ht).2.2
      have hlen : (balL n qs ss).length = n.toNat := balL_len _ _ _
      obtain ⟨m, hm'⟩ : ∃ m, m = (balL n qs ss).length := ⟨_, rfl⟩
      have HM := Lib.hid hm'
      have hmn' : ((m : Int) == n) = true := by rw [beq_iff_eq]; omega
      have HMN := Lib.hid hmn'
      obtain ⟨i0, hi, hz0, hz1, hz2⟩ := info_parts Try_intinfo
      clear ht hlen hm' hmn'
      go_wp2_with fail
      refine (implBalanceOf_any w1 n _ _ qs ss (ovb1.rd qC_len) (ovu1.rd)).mono ?_
      rintro e w2 ⟨vg, rfl, ovg2, b2⟩
      rw [HT.out]
      rw [HR.out] at ovg2
      have z2 := b2.size
      have hvg : ∀ g, vg.ownBlock = some g → g < w2.heap.size := fun g hg => (ovg2.ge g hg).2
      have B2 := below_step B1 b2 (by omega)
      have ovb2 := ovb1.keep (SameAt.of_below b2)
      have ovu2 := ovu1.keep (SameAt.of_below b2)
      clear B1 b2 ovb1 ovu1
      go_wp2_with fail
      refine (specBalanceOf_any w2 n _ _ qs ss (ovb2.rd qC_len) (ovu2.rd)).mono ?_
      rintro e w3 ⟨vx, rfl, ovx3, b3⟩
      rw [HT.out]
      rw [HR.out] at ovx3
      have z3 := b3.size
      have hvx : ∀ g, vx.ownBlock = some g → g < w3.heap.size := fun g hg => (ovx3.ge g hg).2
      have B3 := below_step B2 b3 (by omega)
      have ovb3 := ovb2.keep (SameAt.of_below b3)
      have ovu3 := ovu2.keep (SameAt.of_below b3)
      have ovg3 := ovg2.keep (SameAt.of_below b3)
      clear B2 b3 ovb2 ovu2 ovg2
      go_wp2_with fail
      refine (sameInts_any w3 vg vx _ _ (ovg3.rd) (ovx3.rd)).mono ?_
      rintro e w' ⟨q4, rfl, rfl⟩
      rw [decide_self]
      have z4 : w3.heap.size ≤ (w3.drewN q4).heap.size := Nat.le_refl _
      have B4 : Below w.heap.size w (w3.drewN q4) := below_drewN B3 q4
      have ovb4 : QOwn (w3.drewN q4) _ _ _ := ovb3
      have ovu4 : IOwn (w3.drewN q4) _ _ _ := ovu3
      have ovg4 : IOwn (w3.drewN q4) _ vg _ := ovg3
      have ovx4 : IOwn (w3.drewN q4) _ vx _ := ovx3
      clear B3 ovb3 ovu3 ovg3 ovx3
      generalize w3.drewN q4 = w4 at *
      clear ovx4 hvx
      obtain ⟨Ag, cg, rfl, hlg, hmg, -⟩ := id (ovg4.rd)
      rw [← HM.out] at hlg hvg ovg4 ⊢
      by_cases hz : qs.length = 0
      · have hq0 : qs = [] := List.eq_nil_of_length_eq_zero hz
        have hs0 : ss = [] := List.eq_nil_of_length_eq_zero (by have := HLS.out; omega)
        have hzz : (qs.length : Int) = 0 := by omega
        have HN : Hid (bestI (balL n qs ss) = 0) := Lib.hid (by rw [hq0, hs0]; exact (bal_nil hn1 hn2).2)
        clear hq0 hs0
        go_wp2_with fail
        refine (implBestOf_any _ _ _ (ovg4.rd)).mono ?_
        rintro e w' ⟨rfl, rfl⟩
        rw [HN.out, HG.out]
        have hmn := HMN.out
        go_wp2_with fail
        go_ret
        exact ⟨ret_bool (by simp), B4⟩
      · obtain ⟨k, hk⟩ : ∃ k, qs.length = k + 1 := ⟨qs.length - 1, by omega⟩
        obtain ⟨q, s, hq, hs, f1, f2, f3, f4, f5, f6, f7, f8⟩ := bal_law HT.out hk
        have F2 := Lib.hid f2
        have F1 := Lib.hid f1
        have F3 := Lib.hid f3
        have F4 := Lib.hid f4
        have F5 := Lib.hid f5
        have F6 := Lib.hid f6
        have F7 := Lib.hid f7
        have F8 := Lib.hid f8
        have HQ := Lib.hid hq
        have HS := Lib.hid hs
        have hkq : (qs.length : Int) - 1 = (k : Int) := by omega
        have hk0 : k < qs.length := by omega
        have hk00 : (0 : Int) ≤ (k : Int) := by omega
        have hk1 : (k : Int) < (qs.length : Int) := by omega
        have hk2 : (k : Int) ≤ (c : Int) := by omega
        have hk3 : (k : Int) < (ss.length : Int) := by have := HLS.out; omega
        have hk6 : k < ss.length := by have := HLS.out; omega
        have hk4 : (k : Int) ≤ (c2 : Int) := by have := HLS.out; omega
        have hk5 : k < ss.length := by have := HLS.out; omega
        clear hq hs f1 f2 f3 f4 f5 f6 f7 f8 hz hk
        obtain ⟨b, off, -, rfl, -, -, -, -⟩ := QRd.at_ (ovb4.rd qC_len) hk0
        obtain ⟨b2, off2, -, rfl, -, -, -⟩ := ovu4.rd.at_ hk5
        have HQ14 : Hid (QRd w4.drew (.slice (some ⟨b, off, none⟩) k c) (qs.take k)) := Lib.hid (GRd.take (ovb4.rd qC_len) (by omega))
        have HS14 : Hid (IRd w4.drew (.slice (some ⟨b2, off2, none⟩) k c2) (ss.take k)) := Lib.hid (IRd.take ovu4.rd (by omega))
        go_wp2_with fail
        go_region_with (go_at_call 31; refine (implBalanceOf_any _ n _ _ (qs.take k) (ss.take k) HQ14.out HS14.out).mono ?_; rintro e wa ⟨vl, rfl, ovla, ba⟩; rw [F2.out]; rw [balR_yes F2.out] at ovla)
        clear HQ14 HS14
        have bb := below_step (Below.refl w4.heap.size w4).drew ba (Nat.le_refl _)
        clear ba
        have z5 := bb.size
        have B5 := below_step B4 bb (by omega)
        have ovb5 := ovb4.keep (SameAt.of_below bb)
        have ovu5 := ovu4.keep (SameAt.of_below bb)
        have ovg5 := ovg4.keep (SameAt.of_below bb)
        clear B4 ovb4 ovu4 ovg4 bb
        go_wp2_with fail
        have C1 : Hid ((fun w' => (w'.cell? ⟨b, off + k * 2, none⟩ = some (.int .i64 q.1) ∧ w'.cell? ⟨b, off + k * 2 + 1, none⟩ = some (.int .i64 q.2)) ∧ w'.cell? ⟨b2, off2 + k, none⟩ = some (.int .i64 s)) wa.drew) := Lib.hid ⟨QRd.cell (ovb5.rd qC_len) HQ.out, IRd.cellk ovu5.rd HS.out⟩
        go_region_held3 (fun w' => (w'.cell? ⟨b, off + k * 2, none⟩ = some (.int .i64 q.1) ∧ w'.cell? ⟨b, off + k * 2 + 1, none⟩ = some (.int .i64 q.2)) ∧ w'.cell? ⟨b2, off2 + k, none⟩ = some (.int .i64 s)) (first | exact ⟨QRd.cell (ovbc.rd qC_len) HQ.out, IRd.cellk ovuc.rd HS.out⟩ | exact ⟨QRd.cell (ovbb.rd qC_len) HQ.out, IRd.cellk ovub.rd HS.out⟩ | exact C1.out) (first
          | (go_at_call 22; refine (implGainOf_any n q s _).mono ?_; rintro e wb ⟨vq, rfl, oq, bq⟩; rw [gainR_yes F1.out] at oq; have bq2 := below_step (Below.refl wa.heap.size wa).drew bq (Nat.le_refl _); clear bq; have ovbb := ovb5.keep (SameAt.of_below bq2); have ovub := ovu5.keep (SameAt.of_below bq2); have ovgb := ovg5.keep (SameAt.of_below bq2); have ovlb := ovla.keep (SameAt.of_below bq2))
          | (go_at_call 25; refine (implSumGamble_any _ vl vq _ _ ovlb.rd oq.rd).mono ?_; rintro e wd ⟨vs, rfl, ovsd, bs⟩; rw [F3.out]; rw [F4.out] at ovsd; have ovbc := ovbb.keep (SameAt.of_below bs); have ovuc := ovub.keep (SameAt.of_below bs)))
        have bb := below_step bq2 bs bq2.size
        clear ovbb ovub ovgb ovlb oq ovbc ovuc bq2 bs C1
        have z6 := bb.size
        have B6 := below_step B5 bb (by omega)
        have ovb6 := ovb5.keep (SameAt.of_below bb)
        have ovu6 := ovu5.keep (SameAt.of_below bb)
        have ovg6 := ovg5.keep (SameAt.of_below bb)
        clear B5 ovb5 ovu5 ovg5 bb
        clear ovla
        have H0 : Hid (AppRel wd (negL ss) 0 (.slice (some ⟨wd.heap.size, 0, none⟩) 0 0) (wd.alloc (.cells #[] 3))) := Lib.hid (app_start wd _)
        have Hvb := Lib.hid ovb6
        have Hvu := Lib.hid ovu6
        have Hvg := Lib.hid ovg6
        have Hvs := Lib.hid ovsd
        have HBD := Lib.hid B6
        clear ovb6 ovu6 ovg6 ovsd B6
        go_wp2_with fail
        go_loopw [17, 18] (fun p i wr => ∃ j : Nat, i = .int .i64 (j : Int) ∧ j ≤ ss.length ∧ Hid (AppRel wd (negL ss) j p wr)) (fun _ i _ => ss.length - (intOf i).toNat)
        case atStart => exact ⟨0, rfl, Nat.zero_le _, H0⟩
        case round =>
          obtain ⟨j, rfl, hj, HA⟩ := hrel
          clear H0
          by_cases hjl : j < ss.length
          · obtain ⟨x, hx⟩ : ∃ x, ss[j]? = some x := ⟨_, List.getElem?_eq_getElem hjl⟩
            have hcx := IRd.cellk (Hvu.out.rd.keep (SameAt.of_below HA.out.2)) hx
            obtain ⟨hx1, hx2⟩ := HSS.out x (List.mem_of_getElem? hx)
            have HX := Lib.hid (negL_at hx)
            have hl3 : (List.take j (negL ss)).length = j := by simp [negL]; omega
            have hown0 := HA.out.1
            unfold IOwn at hown0
            have hown := Lib.hid (World.ownsRow.alloc (w := wr) hown0 (.cells #[.int .i64 (-x)] 3))
            have hsz := HA.out.2.size
            clear hown0 hx
            go_wp2_with (at_builtin; refine wpList_append_own _ rfl _ _ 37 rfl wd.heap.size 3 i0 (.int .i64 0) 1 8 Try.underlying37 hi hz0 hz1 hz2 rfl (by decide) _ _ _ rfl hown.out ⟨wr.heap.size, 0, none⟩ 1 1 [.int .i64 (-x)] rfl rfl ?c1 one_int ?c3 ?c4 ?c5 ?_)
            case c1 => exact one_new wr _ _
            case c3 => unfold maxLen; omega
            case c4 => omega
            case c5 => simp; omega
            intro v' w' hown' hgrow _
            have HL := Lib.hid (HA.out.step HX.out (show IOwn w' wd.heap.size v' ((negL ss).take j ++ [-x]) from by simpa [IOwn, hl3] using hown') (grown_after (w := wr) ((Below.refl _ wr).alloc (Nat.le_refl _) _) hgrow))
            clear hown' hgrow hown hl3
            go_wp2_with fail
            go_roundw
            case rel => exact ⟨j + 1, by go_num, by omega, HL⟩
            case measure => simp [intOf]; omega
          · obtain ⟨onr, bb⟩ := HA.out.all (by simp [negL]; omega)
            have ovbx := Hvb.out
            have ovux := Hvu.out
            have ovgx := Hvg.out
            have ovsx := Hvs.out
            have Bx := HBD.out
            have hwz : w.heap.size ≤ wd.heap.size := Bx.size
            clear HA Hvb Hvu Hvg Hvs HBD
            have z7 := bb.size
            have B7 := below_step Bx bb (by omega)
            have ovb7 := ovbx.keep (SameAt.of_below bb)
            have ovu7 := ovux.keep (SameAt.of_below bb)
            have ovg7 := ovgx.keep (SameAt.of_below bb)
            have ovs7 := ovsx.keep (SameAt.of_below bb)
            clear Bx ovbx ovux ovgx ovsx bb
            go_wp2_with fail
            refine (implBalanceOf_any wr n _ u17 qs (negL ss) (ovb7.rd qC_len) onr.rd).mono ?_
            rintro e w8 ⟨vt, rfl, ovt8, b8⟩
            rw [F6.out]
            rw [F5.out] at ovt8
            have z8 := b8.size
            have hvt : ∀ g, vt.ownBlock = some g → g < w8.heap.size := fun g hg => (ovt8.ge g hg).2
            have B8 := below_step B7 b8 (by omega)
            have ovb8 := ovb7.keep (SameAt.of_below b8)
            have ovu8 := ovu7.keep (SameAt.of_below b8)
            have ovg8 := ovg7.keep (SameAt.of_below b8)
            have ovs8 := ovs7.keep (SameAt.of_below b8)
            clear B7 b8 ovb7 ovu7 ovg7 ovs7
            clear onr
            clear ovb8
            clear ovu8
            go_wp2_with fail
            refine (implTimesGamble_any w8 _ _ (-1) (ovg8.rd)).mono ?_
            rintro e w9 ⟨vn, rfl, ovn9, b9⟩
            rw [F7.out]
            rw [F8.out] at ovn9
            have z9 := b9.size
            have hvn : ∀ g, vn.ownBlock = some g → g < w9.heap.size := fun g hg => (ovn9.ge g hg).2
            have B9 := below_step B8 b9 (by omega)
            have ovg9 := ovg8.keep (SameAt.of_below b9)
            have ovs9 := ovs8.keep (SameAt.of_below b9)
            have ovt9 := ovt8.keep (SameAt.of_below b9)
            clear B8 b9 ovg8 ovs8 ovt8
            go_wp2_with fail
            refine (sameInts_any w9 vs _ _ _ (ovs9.rd) (ovg9.rd)).mono ?_
            rintro e w' ⟨q10, rfl, rfl⟩
            rw [decide_self]
            have z10 : w9.heap.size ≤ (w9.drewN q10).heap.size := Nat.le_refl _
            have B10 : Below w.heap.size w (w9.drewN q10) := below_drewN B9 q10
            have ovg10 : IOwn (w9.drewN q10) _ _ _ := ovg9
            have ovs10 : IOwn (w9.drewN q10) _ vs _ := ovs9
            have ovt10 : IOwn (w9.drewN q10) _ vt _ := ovt9
            have ovn10 : IOwn (w9.drewN q10) _ vn _ := ovn9
            clear B9 ovg9 ovs9 ovt9 ovn9
            generalize w9.drewN q10 = w10 at *
            go_wp2_with fail
            refine (sameInts_any w10 vt vn _ _ (ovt10.rd) (ovn10.rd)).mono ?_
            rintro e w' ⟨q11, rfl, rfl⟩
            rw [decide_self]
            have z11 : w10.heap.size ≤ (w10.drewN q11).heap.size := Nat.le_refl _
            have B11 : Below w.heap.size w (w10.drewN q11) := below_drewN B10 q11
            have ovg11 : IOwn (w10.drewN q11) _ _ _ := ovg10
            have ovs11 : IOwn (w10.drewN q11) _ vs _ := ovs10
            have ovt11 : IOwn (w10.drewN q11) _ vt _ := ovt10
            have ovn11 : IOwn (w10.drewN q11) _ vn _ := ovn10
            clear B10 ovg10 ovs10 ovt10 ovn10
            generalize w10.drewN q11 = w11 at *
            go_wp2_with fail
            go_ret
            exact ⟨ret_bool (by simp), B11⟩
    · have HT := Lib.hid ht
      have HR := Lib.hid (balR_no ht)
      clear ht
      go_wp2_with fail
      refine (implBalanceOf_any w1 n _ _ qs ss (ovb1.rd qC_len) (ovu1.rd)).mono ?_
      rintro e w2 ⟨vg, rfl, ovg2, b2⟩
      rw [HT.out]
      rw [HR.out] at ovg2
      have z2 := b2.size
      have hvg : ∀ g, vg.ownBlock = some g → g < w2.heap.size := fun g hg => (ovg2.ge g hg).2
      have B2 := below_step B1 b2 (by omega)
      have ovb2 := ovb1.keep (SameAt.of_below b2)
      have ovu2 := ovu1.keep (SameAt.of_below b2)
      clear B1 b2 ovb1 ovu1
      go_wp2_with fail
      refine (specBalanceOf_any w2 n _ _ qs ss (ovb2.rd qC_len) (ovu2.rd)).mono ?_
      rintro e w3 ⟨vx, rfl, ovx3, b3⟩
      rw [HT.out]
      rw [HR.out] at ovx3
      have z3 := b3.size
      have hvx : ∀ g, vx.ownBlock = some g → g < w3.heap.size := fun g hg => (ovx3.ge g hg).2
      have B3 := below_step B2 b3 (by omega)
      have ovb3 := ovb2.keep (SameAt.of_below b3)
      have ovu3 := ovu2.keep (SameAt.of_below b3)
      have ovg3 := ovg2.keep (SameAt.of_below b3)
      clear B2 b3 ovb2 ovu2 ovg2
      obtain ⟨Ag, cg, rfl, hlg, hmg, -⟩ := id (ovg3.rd)
      go_wp2_with fail
      refine (sameInts_any w3 _ vx _ _ (ovg3.rd) (ovx3.rd)).mono ?_
      rintro e w' ⟨q4, rfl, rfl⟩
      rw [decide_self]
      have z4 : w3.heap.size ≤ (w3.drewN q4).heap.size := Nat.le_refl _
      have B4 : Below w.heap.size w (w3.drewN q4) := below_drewN B3 q4
      have ovb4 : QOwn (w3.drewN q4) _ _ _ := ovb3
      have ovu4 : IOwn (w3.drewN q4) _ _ _ := ovu3
      have ovg4 : IOwn (w3.drewN q4) _ _ _ := ovg3
      have ovx4 : IOwn (w3.drewN q4) _ vx _ := ovx3
      clear B3 ovb3 ovu3 ovg3 ovx3
      generalize w3.drewN q4 = w4 at *
      clear ovx4 hvx
      go_wp2_with fail
      refine (alive_any _).mono ?_
      rintro e w' ⟨rfl, rfl⟩
      go_wp2_with fail
      go_ret
      exact ⟨ret_bool (by simp), B4⟩

end Go.Proofs.Ytdgaakdlnihejaa
