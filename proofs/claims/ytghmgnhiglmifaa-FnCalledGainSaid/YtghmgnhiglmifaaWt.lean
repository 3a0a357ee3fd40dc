/- The walks of the laws of CalledGain, FitsCalled. Conditions: a row of bytes that came in. -/
import Derived.Test.YtghmgnhiglmifaaWp
import Derived.Test.YtghmgnhiglmifaaWe
namespace Go.Proofs.Ytghmgnhiglmifaa
open Go.RowKit
set_option linter.unusedVariables false

theorem cal_times {n a b p : Int} (h : calB n a b p = true) : calB n (notI n a) b (6 - p) = true ∧ timesB (calL n (notI n a) b (6 - p)) (-1) = true ∧ timesR (calL n (notI n a) b (6 - p)) (-1) = calL n a b p := by
  obtain ⟨h1, h2, h3⟩ := (calB_iff n a b p).1 h
  have hc : calB n (notI n a) b (6 - p) = true := (calB_iff _ _ _ _).2 ⟨not_ev h1, h2, by omega, by omega⟩
  have ht := times_gok (cal_gok hc) (t := -1) (.inr (.inl rfl))
  exact ⟨hc, ht, by rw [timesR, if_pos ht, cal_other h1]⟩

theorem cal_gain {n a b p : Int} (h : calB n a b p = true) : calB n a (allI n) p = true ∧ calL n a (allI n) p = gainL n (a, p) 1 ∧ gainR n (a, p) 1 = gainL n (a, p) 1 := by
  obtain ⟨h1, h2, h3⟩ := (calB_iff n a b p).1 h
  have hn := (evB_iff n a).1 h1
  have he : evB n (allI n) = true := (evB_iff _ _).2 ⟨hn.1, hn.2.1, (by have h0 : 0 < (2 : Int) ^ n.toNat := Int.pow_pos (by decide); unfold allI; omega), Int.le_refl _⟩
  refine ⟨(calB_iff _ _ _ _).2 ⟨h1, he, h3⟩, cal_sure hn.1 hn.2.1, ?_⟩
  have hq : qokB n (a, p) = true := by rw [qokB, h1, (inB_iff _ _ _).2 h3]; rfl
  rw [gainR, gainB, hq]
  rfl

set_option maxRecDepth 100000 in
set_option maxHeartbeats 8000000 in
theorem FnCalledGain_walk (a0 : Option Addr) (len0 cap0 : Nat) (z0 : List Int) (w : World) (w0 : IsRowC .u8 w a0 len0 cap0 z0) :
    Calls Try.prog 4 #[.slice a0 len0 cap0] w fun e w' => e = .returned (.bool true) ∧ Below w.heap.size w w' := by
  by_cases hlen : 1048576 < len0
  · clear w0
    go_enter Try.func4, Try.ntmps4
    go_wp2
    go_ret
    exact ⟨rfl, Below.refl _ _⟩
  · have hlen' : decide (1048576 < len0) = false := by simpa using hlen
    go_enter Try.func4, Try.ntmps4
    go_wp2_with fail
    refine (drawCalledGain_any _ _ _ _ _ w0).mono ?_
    rintro e w1 ⟨n, a, b, p, rfl, p0, p7, B1⟩
    clear hlen hlen' w0
    have z1 := B1.size
    rcases Bool.eq_false_or_eq_true (calB n a b p) with h | h
    · obtain ⟨hea, heb, hp0, hp6⟩ := (calB_iff n a b p).1 h
      have hn1 := ((evB_iff n a).1 hea).1
      have hn4 := ((evB_iff n a).1 hea).2.1
      obtain ⟨b0, b15⟩ := evB_15 heb
      obtain ⟨k4, k5, k6⟩ := cal_times h
      obtain ⟨k1, k2, k3⟩ := cal_gain h
      have hw6 : IntKind.i64.wrap (6 - p) = 6 - p := IntWalk.i64_in _ (by omega)
      obtain ⟨g, hg⟩ : ∃ g, calL n a b p = g := ⟨_, rfl⟩
      obtain ⟨y, hy⟩ : ∃ y, gainL n (a, p) 1 = y := ⟨_, rfl⟩
      obtain ⟨zn, hzn⟩ : ∃ z, notI n a = z := ⟨_, rfl⟩
      rw [hzn] at k4 k5 k6
      obtain ⟨x, hx⟩ : ∃ x, calL n zn b (6 - p) = x := ⟨_, rfl⟩
      rw [hx] at k5 k6
      rw [hg] at k6
      rw [hy] at k2
      clear hea heb
      obtain rfl | rfl | rfl | rfl : n = 1 ∨ n = 2 ∨ n = 3 ∨ n = 4 := by omega
      · have HSU : Hid (calR 1 a 1 p = y) := Lib.hid ((calR_yes k1).trans k2)
        have HGR : Hid (gainR 1 (a, p) 1 = y) := Lib.hid (k3.trans hy)
        have HNT : Hid (notI 1 a = zn) := Lib.hid hzn
        have HOT : Hid (calR 1 zn b (6 - p) = x) := Lib.hid ((calR_yes k4).trans hx)
        have HTB := Lib.hid k5
        have HTR := Lib.hid k6
        have HR : Hid (calR 1 a b p = g) := Lib.hid ((calR_yes h).trans hg)
        have HGL : Hid (g.length = 1) := Lib.hid (by rw [← hg, cal_len]; rfl)
        have HAT : Hid (∀ k : Nat, k < 1 → g[k]? = some (calI a b p k)) := Lib.hid (fun k hk => by rw [← hg]; exact cal_at hk)
        clear h hg hx hy hzn k1 k2 k3 k4 k5 k6 hn1 hn4
        go_wp2_with fail
        refine (implCalledGain_any w1 _ a b p).mono ?_
        rintro e w2 ⟨vg, rfl, ovg2, b2⟩
        rw [HR.out] at ovg2
        have z2 := b2.size
        have hvg : ∀ g, vg.ownBlock = some g → g < w2.heap.size := fun g hg => (ovg2.ge g hg).2
        have B2 := below_step B1 b2 (by omega)
        clear B1 b2
        go_wp2_with fail
        refine (specCalledGain_any w2 _ a b p).mono ?_
        rintro e w3 ⟨vs, rfl, ovs3, b3⟩
        rw [HR.out] at ovs3
        have z3 := b3.size
        have hvs : ∀ g, vs.ownBlock = some g → g < w3.heap.size := fun g hg => (ovs3.ge g hg).2
        have B3 := below_step B2 b3 (by omega)
        have ovg3 := ovg2.keep (SameAt.of_below b3)
        clear B2 b3 ovg2
        go_wp2_with fail
        refine (sameInts_any w3 vg vs _ _ (ovg3.rd) (ovs3.rd)).mono ?_
        rintro e w' ⟨q4, rfl, rfl⟩
        rw [decide_self]
        have z4 : w3.heap.size ≤ (w3.drewN q4).heap.size := Nat.le_refl _
        have B4 : Below w.heap.size w (w3.drewN q4) := below_drewN B3 q4
        have ovg4 : IOwn (w3.drewN q4) _ vg _ := ovg3
        have ovs4 : IOwn (w3.drewN q4) _ vs _ := ovs3
        clear B3 ovg3 ovs3
        generalize w3.drewN q4 = w4 at *
        clear ovs4 hvs
        obtain ⟨A, c, rfl, hlc, hmc, -⟩ := id ovg4.rd
        have HV : Hid (∀ wq, Below w4.heap.size w4 wq → IOwn wq _ (.slice A g.length c) g) := Lib.hid (fun wq h => ovg4.keep (SameAt.of_below h))
        have HB3 := Lib.hid B4
        have hgl1 : (1 : Int) ≤ (g.length : Int) := by have := HGL.out; omega
        have hgl2 : (g.length : Int) ≤ 4 := by have := HGL.out; omega
        clear ovg4 B4
        go_wp2_with fail
        go_loopw [8] (fun i wr => ∃ k : Nat, i = .int .i64 (k : Int) ∧ k ≤ 1 ∧ Hid (Below w4.heap.size w4 wr)) (fun i _ => 1 - (intOf i).toNat)
        case atStart => exact ⟨0, rfl, Nat.zero_le _, Lib.hid (Below.refl _ _)⟩
        case round =>
          obtain ⟨k, rfl, hk, HF⟩ := hrel
          by_cases hlt : k < 1
          · have hlt' : (k : Int) < 1 := by omega
            have hk0 : (0 : Int) ≤ (k : Int) := by omega
            have hlg : (k : Int) < (g.length : Int) := by have := HGL.out; omega
            have hlg2 : k < g.length := by have := HGL.out; omega
            obtain ⟨u, htb, hub, u0, u1⟩ := bit_tmod8 (e := b) b0 k
            obtain ⟨G, off, t, rfl, -, ht, hct⟩ := (HV.out wr HF.out).rd.at_ hlg2
            have hte : t = calI a b p k := Option.some.inj (ht.symm.trans (HAT.out k hlt))
            obtain rfl | rfl : u = 0 ∨ u = 1 := by omega
            · have ht0 : t = 0 := by rw [hte]; exact cal_off hub
              subst ht0
              clear ht hte hub hlg2
              go_wp2_with fail
              go_roundw
              case rel => exact ⟨k + 1, by go_num, by omega, HF⟩
              case measure => simp [intOf]; omega
            · clear ht hte hub hlg2
              go_wp2_with fail
              go_roundw
              case rel => exact ⟨k + 1, by go_num, by omega, HF⟩
              case measure => simp [intOf]; omega
          obtain rfl : k = 1 := by omega
          have B5 := below_step HB3.out HF.out HB3.out.size
          have og5 := HV.out wr HF.out
          have z5 := B5.size
          go_wp2_with fail
          refine (implCalledGain_any wr _ a 1 p).mono ?_
          rintro e w6 ⟨va, rfl, ova6, b6⟩
          rw [HSU.out] at ova6
          have z6 := b6.size
          have hva : ∀ g, va.ownBlock = some g → g < w6.heap.size := fun g hg => (ova6.ge g hg).2
          have B6 := below_step B5 b6 (by omega)
          have ovg6 := og5.keep (SameAt.of_below b6)
          clear B5 b6 og5
          go_wp2_with fail
          refine (implNotEvent_any _ _ _).mono ?_
          rintro e w' ⟨rfl, rfl⟩
          rw [HNT.out]
          go_wp2_with fail
          refine (implCalledGain_any w6 _ zn b (6 - p)).mono ?_
          rintro e w7 ⟨vo, rfl, ovo7, b7⟩
          rw [HOT.out] at ovo7
          have z7 := b7.size
          have hvo : ∀ g, vo.ownBlock = some g → g < w7.heap.size := fun g hg => (ovo7.ge g hg).2
          have B7 := below_step B6 b7 (by omega)
          have ovg7 := ovg6.keep (SameAt.of_below b7)
          have ova7 := ova6.keep (SameAt.of_below b7)
          clear B6 b7 ovg6 ova6
          go_wp2_with fail
          refine (implTimesGamble_any w7 vo _ (-1) (ovo7.rd)).mono ?_
          rintro e w8 ⟨vt, rfl, ovt8, b8⟩
          rw [HTB.out]
          rw [HTR.out] at ovt8
          have z8 := b8.size
          have hvt : ∀ g, vt.ownBlock = some g → g < w8.heap.size := fun g hg => (ovt8.ge g hg).2
          have B8 := below_step B7 b8 (by omega)
          have ovg8 := ovg7.keep (SameAt.of_below b8)
          have ova8 := ova7.keep (SameAt.of_below b8)
          have ovo8 := ovo7.keep (SameAt.of_below b8)
          clear B7 b8 ovg7 ova7 ovo7
          clear ovo8 hvo
          go_wp2_with fail
          refine (implGainOf_any _ (a, p) 1 _).mono ?_
          rintro e w9 ⟨vq, rfl, ovq9, b9⟩
          rw [HGR.out] at ovq9
          have z9 := b9.size
          have hvq : ∀ g, vq.ownBlock = some g → g < w9.heap.size := fun g hg => (ovq9.ge g hg).2
          have B9 := below_step B8 b9 (by omega)
          have ovg9 := ovg8.keep (SameAt.of_below b9)
          have ova9 := ova8.keep (SameAt.of_below b9)
          have ovt9 := ovt8.keep (SameAt.of_below b9)
          clear B8 b9 ovg8 ova8 ovt8
          go_wp2_with fail
          refine (sameInts_any w9 va vq _ _ (ova9.rd) (ovq9.rd)).mono ?_
          rintro e w' ⟨q10, rfl, rfl⟩
          rw [decide_self]
          have z10 : w9.heap.size ≤ (w9.drewN q10).heap.size := Nat.le_refl _
          have B10 : Below w.heap.size w (w9.drewN q10) := below_drewN B9 q10
          have ovg10 : IOwn (w9.drewN q10) _ _ _ := ovg9
          have ova10 : IOwn (w9.drewN q10) _ va _ := ova9
          have ovt10 : IOwn (w9.drewN q10) _ vt _ := ovt9
          have ovq10 : IOwn (w9.drewN q10) _ vq _ := ovq9
          clear B9 ovg9 ova9 ovt9 ovq9
          generalize w9.drewN q10 = w10 at *
          clear ovq10 hvq
          clear ova10 hva
          go_wp2_with fail
          refine (sameInts_any w10 vt _ _ _ (ovt10.rd) (ovg10.rd)).mono ?_
          rintro e w' ⟨q11, rfl, rfl⟩
          rw [decide_self]
          have z11 : w10.heap.size ≤ (w10.drewN q11).heap.size := Nat.le_refl _
          have B11 : Below w.heap.size w (w10.drewN q11) := below_drewN B10 q11
          have ovg11 : IOwn (w10.drewN q11) _ _ _ := ovg10
          have ovt11 : IOwn (w10.drewN q11) _ vt _ := ovt10
          clear B10 ovg10 ovt10
          generalize w10.drewN q11 = w11 at *
          go_wp2_with fail
          go_ret
          exact ⟨ret_bool (by simp), B11⟩
      · have HSU : Hid (calR 2 a 3 p = y) := Lib.hid ((calR_yes k1).trans k2)
        have HGR : Hid (gainR 2 (a, p) 1 = y) := Lib.hid (k3.trans hy)
        have HNT : Hid (notI 2 a = zn) := Lib.hid hzn
        have HOT : Hid (calR 2 zn b (6 - p) = x) := Lib.hid ((calR_yes k4).trans hx)
        have HTB := Lib.hid k5
        have HTR := Lib.hid k6
        have HR : Hid (calR 2 a b p = g) := Lib.hid ((calR_yes h).trans hg)
        have HGL : Hid (g.length = 2) := Lib.hid (by rw [← hg, cal_len]; rfl)
        have HAT : Hid (∀ k : Nat, k < 2 → g[k]? = some (calI a b p k)) := Lib.hid (fun k hk => by rw [← hg]; exact cal_at hk)
        clear h hg hx hy hzn k1 k2 k3 k4 k5 k6 hn1 hn4
        go_wp2_with fail
        refine (implCalledGain_any w1 _ a b p).mono ?_
        rintro e w2 ⟨vg, rfl, ovg2, b2⟩
        rw [HR.out] at ovg2
        have z2 := b2.size
        have hvg : ∀ g, vg.ownBlock = some g → g < w2.heap.size := fun g hg => (ovg2.ge g hg).2
        have B2 := below_step B1 b2 (by omega)
        clear B1 b2
        go_wp2_with fail
        refine (specCalledGain_any w2 _ a b p).mono ?_
        rintro e w3 ⟨vs, rfl, ovs3, b3⟩
        rw [HR.out] at ovs3
        have z3 := b3.size
        have hvs : ∀ g, vs.ownBlock = some g → g < w3.heap.size := fun g hg => (ovs3.ge g hg).2
        have B3 := below_step B2 b3 (by omega)
        have ovg3 := ovg2.keep (SameAt.of_below b3)
        clear B2 b3 ovg2
        go_wp2_with fail
        refine (sameInts_any w3 vg vs _ _ (ovg3.rd) (ovs3.rd)).mono ?_
        rintro e w' ⟨q4, rfl, rfl⟩
        rw [decide_self]
        have z4 : w3.heap.size ≤ (w3.drewN q4).heap.size := Nat.le_refl _
        have B4 : Below w.heap.size w (w3.drewN q4) := below_drewN B3 q4
        have ovg4 : IOwn (w3.drewN q4) _ vg _ := ovg3
        have ovs4 : IOwn (w3.drewN q4) _ vs _ := ovs3
        clear B3 ovg3 ovs3
        generalize w3.drewN q4 = w4 at *
        clear ovs4 hvs
        obtain ⟨A, c, rfl, hlc, hmc, -⟩ := id ovg4.rd
        have HV : Hid (∀ wq, Below w4.heap.size w4 wq → IOwn wq _ (.slice A g.length c) g) := Lib.hid (fun wq h => ovg4.keep (SameAt.of_below h))
        have HB3 := Lib.hid B4
        have hgl1 : (1 : Int) ≤ (g.length : Int) := by have := HGL.out; omega
        have hgl2 : (g.length : Int) ≤ 4 := by have := HGL.out; omega
        clear ovg4 B4
        go_wp2_with fail
        go_loopw [8] (fun i wr => ∃ k : Nat, i = .int .i64 (k : Int) ∧ k ≤ 2 ∧ Hid (Below w4.heap.size w4 wr)) (fun i _ => 2 - (intOf i).toNat)
        case atStart => exact ⟨0, rfl, Nat.zero_le _, Lib.hid (Below.refl _ _)⟩
        case round =>
          obtain ⟨k, rfl, hk, HF⟩ := hrel
          by_cases hlt : k < 2
          · have hlt' : (k : Int) < 2 := by omega
            have hk0 : (0 : Int) ≤ (k : Int) := by omega
            have hlg : (k : Int) < (g.length : Int) := by have := HGL.out; omega
            have hlg2 : k < g.length := by have := HGL.out; omega
            obtain ⟨u, htb, hub, u0, u1⟩ := bit_tmod8 (e := b) b0 k
            obtain ⟨G, off, t, rfl, -, ht, hct⟩ := (HV.out wr HF.out).rd.at_ hlg2
            have hte : t = calI a b p k := Option.some.inj (ht.symm.trans (HAT.out k hlt))
            obtain rfl | rfl : u = 0 ∨ u = 1 := by omega
            · have ht0 : t = 0 := by rw [hte]; exact cal_off hub
              subst ht0
              clear ht hte hub hlg2
              go_wp2_with fail
              go_roundw
              case rel => exact ⟨k + 1, by go_num, by omega, HF⟩
              case measure => simp [intOf]; omega
            · clear ht hte hub hlg2
              go_wp2_with fail
              go_roundw
              case rel => exact ⟨k + 1, by go_num, by omega, HF⟩
              case measure => simp [intOf]; omega
          obtain rfl : k = 2 := by omega
          have B5 := below_step HB3.out HF.out HB3.out.size
          have og5 := HV.out wr HF.out
          have z5 := B5.size
          go_wp2_with fail
          refine (implCalledGain_any wr _ a 3 p).mono ?_
          rintro e w6 ⟨va, rfl, ova6, b6⟩
          rw [HSU.out] at ova6
          have z6 := b6.size
          have hva : ∀ g, va.ownBlock = some g → g < w6.heap.size := fun g hg => (ova6.ge g hg).2
          have B6 := below_step B5 b6 (by omega)
          have ovg6 := og5.keep (SameAt.of_below b6)
          clear B5 b6 og5
          go_wp2_with fail
          refine (implNotEvent_any _ _ _).mono ?_
          rintro e w' ⟨rfl, rfl⟩
          rw [HNT.out]
          go_wp2_with fail
          refine (implCalledGain_any w6 _ zn b (6 - p)).mono ?_
          rintro e w7 ⟨vo, rfl, ovo7, b7⟩
          rw [HOT.out] at ovo7
          have z7 := b7.size
          have hvo : ∀ g, vo.ownBlock = some g → g < w7.heap.size := fun g hg => (ovo7.ge g hg).2
          have B7 := below_step B6 b7 (by omega)
          have ovg7 := ovg6.keep (SameAt.of_below b7)
          have ova7 := ova6.keep (SameAt.of_below b7)
          clear B6 b7 ovg6 ova6
          go_wp2_with fail
          refine (implTimesGamble_any w7 vo _ (-1) (ovo7.rd)).mono ?_
          rintro e w8 ⟨vt, rfl, ovt8, b8⟩
          rw [HTB.out]
          rw [HTR.out] at ovt8
          have z8 := b8.size
          have hvt : ∀ g, vt.ownBlock = some g → g < w8.heap.size := fun g hg => (ovt8.ge g hg).2
          have B8 := below_step B7 b8 (by omega)
          have ovg8 := ovg7.keep (SameAt.of_below b8)
          have ova8 := ova7.keep (SameAt.of_below b8)
          have ovo8 := ovo7.keep (SameAt.of_below b8)
          clear B7 b8 ovg7 ova7 ovo7
          clear ovo8 hvo
          go_wp2_with fail
          refine (implGainOf_any _ (a, p) 1 _).mono ?_
          rintro e w9 ⟨vq, rfl, ovq9, b9⟩
          rw [HGR.out] at ovq9
          have z9 := b9.size
          have hvq : ∀ g, vq.ownBlock = some g → g < w9.heap.size := fun g hg => (ovq9.ge g hg).2
          have B9 := below_step B8 b9 (by omega)
          have ovg9 := ovg8.keep (SameAt.of_below b9)
          have ova9 := ova8.keep (SameAt.of_below b9)
          have ovt9 := ovt8.keep (SameAt.of_below b9)
          clear B8 b9 ovg8 ova8 ovt8
          go_wp2_with fail
          refine (sameInts_any w9 va vq _ _ (ova9.rd) (ovq9.rd)).mono ?_
          rintro e w' ⟨q10, rfl, rfl⟩
          rw [decide_self]
          have z10 : w9.heap.size ≤ (w9.drewN q10).heap.size := Nat.le_refl _
          have B10 : Below w.heap.size w (w9.drewN q10) := below_drewN B9 q10
          have ovg10 : IOwn (w9.drewN q10) _ _ _ := ovg9
          have ova10 : IOwn (w9.drewN q10) _ va _ := ova9
          have ovt10 : IOwn (w9.drewN q10) _ vt _ := ovt9
          have ovq10 : IOwn (w9.drewN q10) _ vq _ := ovq9
          clear B9 ovg9 ova9 ovt9 ovq9
          generalize w9.drewN q10 = w10 at *
          clear ovq10 hvq
          clear ova10 hva
          go_wp2_with fail
          refine (sameInts_any w10 vt _ _ _ (ovt10.rd) (ovg10.rd)).mono ?_
          rintro e w' ⟨q11, rfl, rfl⟩
          rw [decide_self]
          have z11 : w10.heap.size ≤ (w10.drewN q11).heap.size := Nat.le_refl _
          have B11 : Below w.heap.size w (w10.drewN q11) := below_drewN B10 q11
          have ovg11 : IOwn (w10.drewN q11) _ _ _ := ovg10
          have ovt11 : IOwn (w10.drewN q11) _ vt _ := ovt10
          clear B10 ovg10 ovt10
          generalize w10.drewN q11 = w11 at *
          go_wp2_with fail
          go_ret
          exact ⟨ret_bool (by simp), B11⟩
      · have HSU : Hid (calR 3 a 7 p = y) := Lib.hid ((calR_yes k1).trans k2)
        have HGR : Hid (gainR 3 (a, p) 1 = y) := Lib.hid (k3.trans hy)
        have HNT : Hid (notI 3 a = zn) := Lib.hid hzn
        have HOT : Hid (calR 3 zn b (6 - p) = x) := Lib.hid ((calR_yes k4).trans hx)
        have HTB := Lib.hid k5
        have HTR := Lib.hid k6
        have HR : Hid (calR 3 a b p = g) := Lib.hid ((calR_yes h).trans hg)
        have HGL : Hid (g.length = 3) := Lib.hid (by rw [← hg, cal_len]; rfl)
        have HAT : Hid (∀ k : Nat, k < 3 → g[k]? = some (calI a b p k)) := Lib.hid (fun k hk => by rw [← hg]; exact cal_at hk)
        clear h hg hx hy hzn k1 k2 k3 k4 k5 k6 hn1 hn4
        go_wp2_with fail
        refine (implCalledGain_any w1 _ a b p).mono ?_
        rintro e w2 ⟨vg, rfl, ovg2, b2⟩
        rw [HR.out] at ovg2
        have z2 := b2.size
        have hvg : ∀ g, vg.ownBlock = some g → g < w2.heap.size := fun g hg => (ovg2.ge g hg).2
        have B2 := below_step B1 b2 (by omega)
        clear B1 b2
        go_wp2_with fail
        refine (specCalledGain_any w2 _ a b p).mono ?_
        rintro e w3 ⟨vs, rfl, ovs3, b3⟩
        rw [HR.out] at ovs3
        have z3 := b3.size
        have hvs : ∀ g, vs.ownBlock = some g → g < w3.heap.size := fun g hg => (ovs3.ge g hg).2
        have B3 := below_step B2 b3 (by omega)
        have ovg3 := ovg2.keep (SameAt.of_below b3)
        clear B2 b3 ovg2
        go_wp2_with fail
        refine (sameInts_any w3 vg vs _ _ (ovg3.rd) (ovs3.rd)).mono ?_
        rintro e w' ⟨q4, rfl, rfl⟩
        rw [decide_self]
        have z4 : w3.heap.size ≤ (w3.drewN q4).heap.size := Nat.le_refl _
        have B4 : Below w.heap.size w (w3.drewN q4) := below_drewN B3 q4
        have ovg4 : IOwn (w3.drewN q4) _ vg _ := ovg3
        have ovs4 : IOwn (w3.drewN q4) _ vs _ := ovs3
        clear B3 ovg3 ovs3
        generalize w3.drewN q4 = w4 at *
        clear ovs4 hvs
        obtain ⟨A, c, rfl, hlc, hmc, -⟩ := id ovg4.rd
        have HV : Hid (∀ wq, Below w4.heap.size w4 wq → IOwn wq _ (.slice A g.length c) g) := Lib.hid (fun wq h => ovg4.keep (SameAt.of_below h))
        have HB3 := Lib.hid B4
        have hgl1 : (1 : Int) ≤ (g.length : Int) := by have := HGL.out; omega
        have hgl2 : (g.length : Int) ≤ 4 := by have := HGL.out; omega
        clear ovg4 B4
        go_wp2_with fail
        go_loopw [8] (fun i wr => ∃ k : Nat, i = .int .i64 (k : Int) ∧ k ≤ 3 ∧ Hid (Below w4.heap.size w4 wr)) (fun i _ => 3 - (intOf i).toNat)
        case atStart => exact ⟨0, rfl, Nat.zero_le _, Lib.hid (Below.refl _ _)⟩
        case round =>
          obtain ⟨k, rfl, hk, HF⟩ := hrel
          by_cases hlt : k < 3
          · have hlt' : (k : Int) < 3 := by omega
            have hk0 : (0 : Int) ≤ (k : Int) := by omega
            have hlg : (k : Int) < (g.length : Int) := by have := HGL.out; omega
            have hlg2 : k < g.length := by have := HGL.out; omega
            obtain ⟨u, htb, hub, u0, u1⟩ := bit_tmod8 (e := b) b0 k
            obtain ⟨G, off, t, rfl, -, ht, hct⟩ := (HV.out wr HF.out).rd.at_ hlg2
            have hte : t = calI a b p k := Option.some.inj (ht.symm.trans (HAT.out k hlt))
            obtain rfl | rfl : u = 0 ∨ u = 1 := by omega
            · have ht0 : t = 0 := by rw [hte]; exact cal_off hub
              subst ht0
              clear ht hte hub hlg2
              go_wp2_with fail
              go_roundw
              case rel => exact ⟨k + 1, by go_num, by omega, HF⟩
              case measure => simp [intOf]; omega
            · clear ht hte hub hlg2
              go_wp2_with fail
              go_roundw
              case rel => exact ⟨k + 1, by go_num, by omega, HF⟩
              case measure => simp [intOf]; omega
          obtain rfl : k = 3 := by omega
          have B5 := below_step HB3.out HF.out HB3.out.size
          have og5 := HV.out wr HF.out
          have z5 := B5.size
          go_wp2_with fail
          refine (implCalledGain_any wr _ a 7 p).mono ?_
          rintro e w6 ⟨va, rfl, ova6, b6⟩
          rw [HSU.out] at ova6
          have z6 := b6.size
          have hva : ∀ g, va.ownBlock = some g → g < w6.heap.size := fun g hg => (ova6.ge g hg).2
          have B6 := below_step B5 b6 (by omega)
          have ovg6 := og5.keep (SameAt.of_below b6)
          clear B5 b6 og5
          go_wp2_with fail
          refine (implNotEvent_any _ _ _).mono ?_
          rintro e w' ⟨rfl, rfl⟩
          rw [HNT.out]
          go_wp2_with fail
          refine (implCalledGain_any w6 _ zn b (6 - p)).mono ?_
          rintro e w7 ⟨vo, rfl, ovo7, b7⟩
          rw [HOT.out] at ovo7
          have z7 := b7.size
          have hvo : ∀ g, vo.ownBlock = some g → g < w7.heap.size := fun g hg => (ovo7.ge g hg).2
          have B7 := below_step B6 b7 (by omega)
          have ovg7 := ovg6.keep (SameAt.of_below b7)
          have ova7 := ova6.keep (SameAt.of_below b7)
          clear B6 b7 ovg6 ova6
          go_wp2_with fail
          refine (implTimesGamble_any w7 vo _ (-1) (ovo7.rd)).mono ?_
          rintro e w8 ⟨vt, rfl, ovt8, b8⟩
          rw [HTB.out]
          rw [HTR.out] at ovt8
          have z8 := b8.size
          have hvt : ∀ g, vt.ownBlock = some g → g < w8.heap.size := fun g hg => (ovt8.ge g hg).2
          have B8 := below_step B7 b8 (by omega)
          have ovg8 := ovg7.keep (SameAt.of_below b8)
          have ova8 := ova7.keep (SameAt.of_below b8)
          have ovo8 := ovo7.keep (SameAt.of_below b8)
          clear B7 b8 ovg7 ova7 ovo7
          clear ovo8 hvo
          go_wp2_with fail
          refine (implGainOf_any _ (a, p) 1 _).mono ?_
          rintro e w9 ⟨vq, rfl, ovq9, b9⟩
          rw [HGR.out] at ovq9
          have z9 := b9.size
          have hvq : ∀ g, vq.ownBlock = some g → g < w9.heap.size := fun g hg => (ovq9.ge g hg).2
          have B9 := below_step B8 b9 (by omega)
          have ovg9 := ovg8.keep (SameAt.of_below b9)
          have ova9 := ova8.keep (SameAt.of_below b9)
          have ovt9 := ovt8.keep (SameAt.of_below b9)
          clear B8 b9 ovg8 ova8 ovt8
          go_wp2_with fail
          refine (sameInts_any w9 va vq _ _ (ova9.rd) (ovq9.rd)).mono ?_
          rintro e w' ⟨q10, rfl, rfl⟩
          rw [decide_self]
          have z10 : w9.heap.size ≤ (w9.drewN q10).heap.size := Nat.le_refl _
          have B10 : Below w.heap.size w (w9.drewN q10) := below_drewN B9 q10
          have ovg10 : IOwn (w9.drewN q10) _ _ _ := ovg9
          have ova10 : IOwn (w9.drewN q10) _ va _ := ova9
          have ovt10 : IOwn (w9.drewN q10) _ vt _ := ovt9
          have ovq10 : IOwn (w9.drewN q10) _ vq _ := ovq9
          clear B9 ovg9 ova9 ovt9 ovq9
          generalize w9.drewN q10 = w10 at *
          clear ovq10 hvq
          clear ova10 hva
          go_wp2_with fail
          refine (sameInts_any w10 vt _ _ _ (ovt10.rd) (ovg10.rd)).mono ?_
          rintro e w' ⟨q11, rfl, rfl⟩
          rw [decide_self]
          have z11 : w10.heap.size ≤ (w10.drewN q11).heap.size := Nat.le_refl _
          have B11 : Below w.heap.size w (w10.drewN q11) := below_drewN B10 q11
          have ovg11 : IOwn (w10.drewN q11) _ _ _ := ovg10
          have ovt11 : IOwn (w10.drewN q11) _ vt _ := ovt10
          clear B10 ovg10 ovt10
          generalize w10.drewN q11 = w11 at *
          go_wp2_with fail
          go_ret
          exact ⟨ret_bool (by simp), B11⟩
      · have HSU : Hid (calR 4 a 15 p = y) := Lib.hid ((calR_yes k1).trans k2)
        have HGR : Hid (gainR 4 (a, p) 1 = y) := Lib.hid (k3.trans hy)
        have HNT : Hid (notI 4 a = zn) := Lib.hid hzn
        have HOT : Hid (calR 4 zn b (6 - p) = x) := Lib.hid ((calR_yes k4).trans hx)
        have HTB := Lib.hid k5
        have HTR := Lib.hid k6
        have HR : Hid (calR 4 a b p = g) := Lib.hid ((calR_yes h).trans hg)
        have HGL : Hid (g.length = 4) := Lib.hid (by rw [← hg, cal_len]; rfl)
        have HAT : Hid (∀ k : Nat, k < 4 → g[k]? = some (calI a b p k)) := Lib.hid (fun k hk => by rw [← hg]; exact cal_at hk)
        clear h hg hx hy hzn k1 k2 k3 k4 k5 k6 hn1 hn4
        go_wp2_with fail
        refine (implCalledGain_any w1 _ a b p).mono ?_
        rintro e w2 ⟨vg, rfl, ovg2, b2⟩
        rw [HR.out] at ovg2
        have z2 := b2.size
        have hvg : ∀ g, vg.ownBlock = some g → g < w2.heap.size := fun g hg => (ovg2.ge g hg).2
        have B2 := below_step B1 b2 (by omega)
        clear B1 b2
        go_wp2_with fail
        refine (specCalledGain_any w2 _ a b p).mono ?_
        rintro e w3 ⟨vs, rfl, ovs3, b3⟩
        rw [HR.out] at ovs3
        have z3 := b3.size
        have hvs : ∀ g, vs.ownBlock = some g → g < w3.heap.size := fun g hg => (ovs3.ge g hg).2
        have B3 := below_step B2 b3 (by omega)
        have ovg3 := ovg2.keep (SameAt.of_below b3)
        clear B2 b3 ovg2
        go_wp2_with fail
        refine (sameInts_any w3 vg vs _ _ (ovg3.rd) (ovs3.rd)).mono ?_
        rintro e w' ⟨q4, rfl, rfl⟩
        rw [decide_self]
        have z4 : w3.heap.size ≤ (w3.drewN q4).heap.size := Nat.le_refl _
        have B4 : Below w.heap.size w (w3.drewN q4) := below_drewN B3 q4
        have ovg4 : IOwn (w3.drewN q4) _ vg _ := ovg3
        have ovs4 : IOwn (w3.drewN q4) _ vs _ := ovs3
        clear B3 ovg3 ovs3
        generalize w3.drewN q4 = w4 at *
        clear ovs4 hvs
        obtain ⟨A, c, rfl, hlc, hmc, -⟩ := id ovg4.rd
        have HV : Hid (∀ wq, Below w4.heap.size w4 wq → IOwn wq _ (.slice A g.length c) g) := Lib.hid (fun wq h => ovg4.keep (SameAt.of_below h))
        have HB3 := Lib.hid B4
        have hgl1 : (1 : Int) ≤ (g.length : Int) := by have := HGL.out; omega
        have hgl2 : (g.length : Int) ≤ 4 := by have := HGL.out; omega
        clear ovg4 B4
        go_wp2_with fail
        go_loopw [8] (fun i wr => ∃ k : Nat, i = .int .i64 (k : Int) ∧ k ≤ 4 ∧ Hid (Below w4.heap.size w4 wr)) (fun i _ => 4 - (intOf i).toNat)
        case atStart => exact ⟨0, rfl, Nat.zero_le _, Lib.hid (Below.refl _ _)⟩
        case round =>
          obtain ⟨k, rfl, hk, HF⟩ := hrel
          by_cases hlt : k < 4
          · have hlt' : (k : Int) < 4 := by omega
            have hk0 : (0 : Int) ≤ (k : Int) := by omega
            have hlg : (k : Int) < (g.length : Int) := by have := HGL.out; omega
            have hlg2 : k < g.length := by have := HGL.out; omega
            obtain ⟨u, htb, hub, u0, u1⟩ := bit_tmod8 (e := b) b0 k
            obtain ⟨G, off, t, rfl, -, ht, hct⟩ := (HV.out wr HF.out).rd.at_ hlg2
            have hte : t = calI a b p k := Option.some.inj (ht.symm.trans (HAT.out k hlt))
            obtain rfl | rfl : u = 0 ∨ u = 1 := by omega
            · have ht0 : t = 0 := by rw [hte]; exact cal_off hub
              subst ht0
              clear ht hte hub hlg2
              go_wp2_with fail
              go_roundw
              case rel => exact ⟨k + 1, by go_num, by omega, HF⟩
              case measure => simp [intOf]; omega
            · clear ht hte hub hlg2
              go_wp2_with fail
              go_roundw
              case rel => exact ⟨k + 1, by go_num, by omega, HF⟩
              case measure => simp [intOf]; omega
          obtain rfl : k = 4 := by omega
          have B5 := below_step HB3.out HF.out HB3.out.size
          have og5 := HV.out wr HF.out
          have z5 := B5.size
          go_wp2_with fail
          refine (implCalledGain_any wr _ a 15 p).mono ?_
          rintro e w6 ⟨va, rfl, ova6, b6⟩
          rw [HSU.out] at ova6
          have z6 := b6.size
          have hva : ∀ g, va.ownBlock = some g → g < w6.heap.size := fun g hg => (ova6.ge g hg).2
          have B6 := below_step B5 b6 (by omega)
          have ovg6 := og5.keep (SameAt.of_below b6)
          clear B5 b6 og5
          go_wp2_with fail
          refine (implNotEvent_any _ _ _).mono ?_
          rintro e w' ⟨rfl, rfl⟩
          rw [HNT.out]
          go_wp2_with fail
          refine (implCalledGain_any w6 _ zn b (6 - p)).mono ?_
          rintro e w7 ⟨vo, rfl, ovo7, b7⟩
          rw [HOT.out] at ovo7
          have z7 := b7.size
          have hvo : ∀ g, vo.ownBlock = some g → g < w7.heap.size := fun g hg => (ovo7.ge g hg).2
          have B7 := below_step B6 b7 (by omega)
          have ovg7 := ovg6.keep (SameAt.of_below b7)
          have ova7 := ova6.keep (SameAt.of_below b7)
          clear B6 b7 ovg6 ova6
          go_wp2_with fail
          refine (implTimesGamble_any w7 vo _ (-1) (ovo7.rd)).mono ?_
          rintro e w8 ⟨vt, rfl, ovt8, b8⟩
          rw [HTB.out]
          rw [HTR.out] at ovt8
          have z8 := b8.size
          have hvt : ∀ g, vt.ownBlock = some g → g < w8.heap.size := fun g hg => (ovt8.ge g hg).2
          have B8 := below_step B7 b8 (by omega)
          have ovg8 := ovg7.keep (SameAt.of_below b8)
          have ova8 := ova7.keep (SameAt.of_below b8)
          have ovo8 := ovo7.keep (SameAt.of_below b8)
          clear B7 b8 ovg7 ova7 ovo7
          clear ovo8 hvo
          go_wp2_with fail
          refine (implGainOf_any _ (a, p) 1 _).mono ?_
          rintro e w9 ⟨vq, rfl, ovq9, b9⟩
          rw [HGR.out] at ovq9
          have z9 := b9.size
          have hvq : ∀ g, vq.ownBlock = some g → g < w9.heap.size := fun g hg => (ovq9.ge g hg).2
          have B9 := below_step B8 b9 (by omega)
          have ovg9 := ovg8.keep (SameAt.of_below b9)
          have ova9 := ova8.keep (SameAt.of_below b9)
          have ovt9 := ovt8.keep (SameAt.of_below b9)
          clear B8 b9 ovg8 ova8 ovt8
          go_wp2_with fail
          refine (sameInts_any w9 va vq _ _ (ova9.rd) (ovq9.rd)).mono ?_
          rintro e w' ⟨q10, rfl, rfl⟩
          rw [decide_self]
          have z10 : w9.heap.size ≤ (w9.drewN q10).heap.size := Nat.le_refl _
          have B10 : Below w.heap.size w (w9.drewN q10) := below_drewN B9 q10
          have ovg10 : IOwn (w9.drewN q10) _ _ _ := ovg9
          have ova10 : IOwn (w9.drewN q10) _ va _ := ova9
          have ovt10 : IOwn (w9.drewN q10) _ vt _ := ovt9
          have ovq10 : IOwn (w9.drewN q10) _ vq _ := ovq9
          clear B9 ovg9 ova9 ovt9 ovq9
          generalize w9.drewN q10 = w10 at *
          clear ovq10 hvq
          clear ova10 hva
          go_wp2_with fail
          refine (sameInts_any w10 vt _ _ _ (ovt10.rd) (ovg10.rd)).mono ?_
          rintro e w' ⟨q11, rfl, rfl⟩
          rw [decide_self]
          have z11 : w10.heap.size ≤ (w10.drewN q11).heap.size := Nat.le_refl _
          have B11 : Below w.heap.size w (w10.drewN q11) := below_drewN B10 q11
          have ovg11 : IOwn (w10.drewN q11) _ _ _ := ovg10
          have ovt11 : IOwn (w10.drewN q11) _ vt _ := ovt10
          clear B10 ovg10 ovt10
          generalize w10.drewN q11 = w11 at *
          go_wp2_with fail
          go_ret
          exact ⟨ret_bool (by simp), B11⟩
    · have HR := Lib.hid (calR_no h)
      clear h
      go_wp2_with fail
      refine (implCalledGain_any w1 n a b p).mono ?_
      rintro e w2 ⟨vg, rfl, ovg2, b2⟩
      rw [HR.out] at ovg2
      have z2 := b2.size
      have hvg : ∀ g, vg.ownBlock = some g → g < w2.heap.size := fun g hg => (ovg2.ge g hg).2
      have B2 := below_step B1 b2 (by omega)
      clear B1 b2
      go_wp2_with fail
      refine (specCalledGain_any w2 n a b p).mono ?_
      rintro e w3 ⟨vs, rfl, ovs3, b3⟩
      rw [HR.out] at ovs3
      have z3 := b3.size
      have hvs : ∀ g, vs.ownBlock = some g → g < w3.heap.size := fun g hg => (ovs3.ge g hg).2
      have B3 := below_step B2 b3 (by omega)
      have ovg3 := ovg2.keep (SameAt.of_below b3)
      clear B2 b3 ovg2
      go_wp2_with fail
      refine (sameInts_any w3 vg vs _ _ (ovg3.rd) (ovs3.rd)).mono ?_
      rintro e w' ⟨q4, rfl, rfl⟩
      rw [decide_self]
      have z4 : w3.heap.size ≤ (w3.drewN q4).heap.size := Nat.le_refl _
      have B4 : Below w.heap.size w (w3.drewN q4) := below_drewN B3 q4
      have ovg4 : IOwn (w3.drewN q4) _ vg _ := ovg3
      have ovs4 : IOwn (w3.drewN q4) _ vs _ := ovs3
      clear B3 ovg3 ovs3
      generalize w3.drewN q4 = w4 at *
      clear ovs4 hvs
      obtain ⟨Ag, cg, rfl, hlcg, hmg, -⟩ := id (ovg4.rd)
      go_wp2_with fail
      refine (alive_any _).mono ?_
      rintro e w' ⟨rfl, rfl⟩
      go_wp2_with fail
      go_ret
      exact ⟨ret_bool (by simp), B4⟩

set_option maxRecDepth 100000 in
set_option maxHeartbeats 8000000 in
theorem FnFitsCalled_walk (a0 : Option Addr) (len0 cap0 : Nat) (z0 : List Int) (w : World) (w0 : IsRowC .u8 w a0 len0 cap0 z0) :
    Calls Try.prog 5 #[.slice a0 len0 cap0] w fun e w' => e = .returned (.bool true) ∧ Below w.heap.size w w' := by
  by_cases hlen : 1048576 < len0
  · clear w0
    go_enter Try.func5, Try.ntmps5
    go_wp2
    go_ret
    exact ⟨rfl, Below.refl _ _⟩
  · have hlen' : decide (1048576 < len0) = false := by simpa using hlen
    go_enter Try.func5, Try.ntmps5
    go_wp2_with fail
    refine (drawFitsCalled_any _ _ _ _ _ w0).mono ?_
    rintro e w1 ⟨vm, m, a, b, p, rfl, ovm1, hl4, -, a0', a31, b0', b15, p0, p7, B1⟩
    clear hlen hlen' w0
    have z1 := B1.size
    obtain ⟨A, c, rfl, hlA, hmA, -⟩ := id ovm1.rd
    rcases Bool.eq_false_or_eq_true (meaB m) with h1 | h1
    · rcases Bool.eq_false_or_eq_true (calB (m.length : Int) a b p) with h2 | h2
      · obtain ⟨e1, hbB, e3⟩ := fc_yes h1 h2
        have hp := ((calB_iff _ _ _ _).1 h2).2.2
        have nb := giv_bounds m a b
        obtain ⟨t, ht⟩ : ∃ t, fcB m a b p = t := ⟨_, rfl⟩
        obtain ⟨g, hg⟩ : ∃ g, calL (m.length : Int) a b p = g := ⟨_, rfl⟩
        have HCR : Hid (calR (m.length : Int) a b p = g) := Lib.hid ((calR_yes h2).trans hg)
        have hgl : g.length = m.length := by rw [← hg, cal_len, Int.toNat_natCast]
        have hgl1 : (1 : Int) ≤ (g.length : Int) := by have := (mea_parts h1).2.2.1; omega
        rw [hg] at hbB e3
        obtain ⟨n, hn⟩ : ∃ n, brR m g = n := ⟨_, rfl⟩
        rw [hn, ht] at e3
        have HM := Lib.hid h1
        have HT := Lib.hid ht
        have HBB := Lib.hid hbB
        have HN := Lib.hid hn
        have hn0 : (n == 0) = t := e3.symm
        obtain ⟨x, hx⟩ : ∃ n, givN m a b = n := ⟨_, rfl⟩
        obtain ⟨y, hy⟩ : ∃ n, givD m a b = n := ⟨_, rfl⟩
        rw [hx, hy] at nb
        have t1 : 0 ≤ y * p ∧ y * p ≤ 36 * 6 := ⟨Int.mul_nonneg nb.2.2.1 hp.1, Int.mul_le_mul nb.2.2.2 hp.2 hp.1 (by decide)⟩
        have hw1 : IntKind.i64.wrap (x * 6) = x * 6 := IntWalk.i64_in _ (by omega)
        have hw2 : IntKind.i64.wrap (y * p) = y * p := IntWalk.i64_in _ (by omega)
        obtain ⟨s, hs⟩ : ∃ s, givB m a b = s := ⟨_, rfl⟩
        have HS := Lib.hid hs
        have hgv : s = true → (x * 6 == y * p) = t := by
          intro hst
          rw [hst] at hs
          have := fc_given hs h2
          rw [hx, hy, ht] at this
          exact this.symm
        have HX := Lib.hid hx
        have HY := Lib.hid hy
        clear h1 h2 e1 hbB e3 hp nb ht hg hgl hn hx hy t1 hs
        cases s
        · clear hgv
          go_wp2_with fail
          refine (implFitsCalled_any w1 _ m a b p (ovm1.rd)).mono ?_
          rintro e w2 ⟨rfl, b2⟩
          rw [HT.out]
          have z2 := b2.size
          have B2 := below_step B1 b2 (by omega)
          have ovm2 := ovm1.keep (SameAt.of_below b2)
          clear B1 b2 ovm1
          go_wp2_with fail
          refine (specFitsCalled_any w2 _ m a b p (ovm2.rd)).mono ?_
          rintro e w3 ⟨rfl, b3⟩
          rw [HT.out]
          have z3 := b3.size
          have B3 := below_step B2 b3 (by omega)
          have ovm3 := ovm2.keep (SameAt.of_below b3)
          clear B2 b3 ovm2
          cases t
          all_goals
            go_wp2_with fail
            refine (implCalledGain_any w3 _ a b p).mono ?_
            rintro e w4 ⟨vg, rfl, ovg4, b4⟩
            rw [HCR.out] at ovg4
            have z4 := b4.size
            have hvg : ∀ g, vg.ownBlock = some g → g < w4.heap.size := fun g hg => (ovg4.ge g hg).2
            have B4 := below_step B3 b4 (by omega)
            have ovm4 := ovm3.keep (SameAt.of_below b4)
            clear B3 b4 ovm3
            obtain ⟨Ag, cg, rfl, hlcg, hmg, -⟩ := id (ovg4.rd)
            go_wp2_with fail
            refine (specMeasureOk_any _ _ _ (ovm4.rd)).mono ?_
            rintro e w' ⟨rfl, rfl⟩
            rw [HM.out]
            go_wp2_with fail
            refine (implBringsBy_any w4 _ _ m g (ovm4.rd) (ovg4.rd)).mono ?_
            rintro e w5 ⟨rfl, b5⟩
            rw [HN.out, HBB.out]
            have z5 := b5.size
            have B5 := below_step B4 b5 (by omega)
            have ovm5 := ovm4.keep (SameAt.of_below b5)
            have ovg5 := ovg4.keep (SameAt.of_below b5)
            clear B4 b5 ovm4 ovg4
            go_wp2_with fail
            refine (implGivenBy_any w5 _ m a b (ovm5.rd)).mono ?_
            rintro e w6 ⟨rfl, b6⟩
            rw [HX.out, HY.out, HS.out]
            have z6 := b6.size
            have B6 := below_step B5 b6 (by omega)
            have ovm6 := ovm5.keep (SameAt.of_below b6)
            have ovg6 := ovg5.keep (SameAt.of_below b6)
            clear B5 b6 ovm5 ovg5
            go_wp2_with fail
            go_ret
            exact ⟨ret_bool (by simp), B6⟩
        · have hgv := hgv rfl
          go_wp2_with fail
          refine (implFitsCalled_any w1 _ m a b p (ovm1.rd)).mono ?_
          rintro e w2 ⟨rfl, b2⟩
          rw [HT.out]
          have z2 := b2.size
          have B2 := below_step B1 b2 (by omega)
          have ovm2 := ovm1.keep (SameAt.of_below b2)
          clear B1 b2 ovm1
          go_wp2_with fail
          refine (specFitsCalled_any w2 _ m a b p (ovm2.rd)).mono ?_
          rintro e w3 ⟨rfl, b3⟩
          rw [HT.out]
          have z3 := b3.size
          have B3 := below_step B2 b3 (by omega)
          have ovm3 := ovm2.keep (SameAt.of_below b3)
          clear B2 b3 ovm2
          cases t
          all_goals
            go_wp2_with fail
            refine (implCalledGain_any w3 _ a b p).mono ?_
            rintro e w4 ⟨vg, rfl, ovg4, b4⟩
            rw [HCR.out] at ovg4
            have z4 := b4.size
            have hvg : ∀ g, vg.ownBlock = some g → g < w4.heap.size := fun g hg => (ovg4.ge g hg).2
            have B4 := below_step B3 b4 (by omega)
            have ovm4 := ovm3.keep (SameAt.of_below b4)
            clear B3 b4 ovm3
            obtain ⟨Ag, cg, rfl, hlcg, hmg, -⟩ := id (ovg4.rd)
            go_wp2_with fail
            refine (specMeasureOk_any _ _ _ (ovm4.rd)).mono ?_
            rintro e w' ⟨rfl, rfl⟩
            rw [HM.out]
            go_wp2_with fail
            refine (implBringsBy_any w4 _ _ m g (ovm4.rd) (ovg4.rd)).mono ?_
            rintro e w5 ⟨rfl, b5⟩
            rw [HN.out, HBB.out]
            have z5 := b5.size
            have B5 := below_step B4 b5 (by omega)
            have ovm5 := ovm4.keep (SameAt.of_below b5)
            have ovg5 := ovg4.keep (SameAt.of_below b5)
            clear B4 b5 ovm4 ovg4
            go_wp2_with fail
            refine (implGivenBy_any w5 _ m a b (ovm5.rd)).mono ?_
            rintro e w6 ⟨rfl, b6⟩
            rw [HX.out, HY.out, HS.out]
            have z6 := b6.size
            have B6 := below_step B5 b6 (by omega)
            have ovm6 := ovm5.keep (SameAt.of_below b6)
            have ovg6 := ovg5.keep (SameAt.of_below b6)
            clear B5 b6 ovm5 ovg5
            go_wp2_with fail
            go_ret
            exact ⟨ret_bool (by simp), B6⟩
      · have HT := Lib.hid (fc_no (m := m) (a := a) (b := b) (p := p) (.inr h2))
        have HCR := Lib.hid (calR_no h2)
        have HM := Lib.hid h1
        clear h1 h2
        go_wp2_with fail
        refine (implFitsCalled_any w1 _ m a b p (ovm1.rd)).mono ?_
        rintro e w2 ⟨rfl, b2⟩
        rw [HT.out]
        have z2 := b2.size
        have B2 := below_step B1 b2 (by omega)
        have ovm2 := ovm1.keep (SameAt.of_below b2)
        clear B1 b2 ovm1
        go_wp2_with fail
        refine (specFitsCalled_any w2 _ m a b p (ovm2.rd)).mono ?_
        rintro e w3 ⟨rfl, b3⟩
        rw [HT.out]
        have z3 := b3.size
        have B3 := below_step B2 b3 (by omega)
        have ovm3 := ovm2.keep (SameAt.of_below b3)
        clear B2 b3 ovm2
        go_wp2_with fail
        refine (implCalledGain_any w3 _ a b p).mono ?_
        rintro e w4 ⟨vg, rfl, ovg4, b4⟩
        rw [HCR.out] at ovg4
        have z4 := b4.size
        have hvg : ∀ g, vg.ownBlock = some g → g < w4.heap.size := fun g hg => (ovg4.ge g hg).2
        have B4 := below_step B3 b4 (by omega)
        have ovm4 := ovm3.keep (SameAt.of_below b4)
        clear B3 b4 ovm3
        obtain ⟨Ag, cg, rfl, hlcg, hmg, -⟩ := id (ovg4.rd)
        go_wp2_with fail
        refine (specMeasureOk_any _ _ _ (ovm4.rd)).mono ?_
        rintro e w' ⟨rfl, rfl⟩
        rw [HM.out]
        go_wp2_with fail
        refine (alive_any _).mono ?_
        rintro e w' ⟨rfl, rfl⟩
        go_wp2_with fail
        go_ret
        exact ⟨ret_bool (by simp), B4⟩
    · have HT := Lib.hid (fc_no (m := m) (a := a) (b := b) (p := p) (.inl h1))
      have HM := Lib.hid h1
      clear h1
      go_wp2_with fail
      refine (implFitsCalled_any w1 _ m a b p (ovm1.rd)).mono ?_
      rintro e w2 ⟨rfl, b2⟩
      rw [HT.out]
      have z2 := b2.size
      have B2 := below_step B1 b2 (by omega)
      have ovm2 := ovm1.keep (SameAt.of_below b2)
      clear B1 b2 ovm1
      go_wp2_with fail
      refine (specFitsCalled_any w2 _ m a b p (ovm2.rd)).mono ?_
      rintro e w3 ⟨rfl, b3⟩
      rw [HT.out]
      have z3 := b3.size
      have B3 := below_step B2 b3 (by omega)
      have ovm3 := ovm2.keep (SameAt.of_below b3)
      clear B2 b3 ovm2
      go_wp2_with fail
      refine (implCalledGain_any w3 _ a b p).mono ?_
      rintro e w4 ⟨vg, rfl, ovg4, b4⟩
      have z4 := b4.size
      have hvg : ∀ g, vg.ownBlock = some g → g < w4.heap.size := fun g hg => (ovg4.ge g hg).2
      have B4 := below_step B3 b4 (by omega)
      have ovm4 := ovm3.keep (SameAt.of_below b4)
      clear B3 b4 ovm3
      go_wp2_with fail
      refine (specMeasureOk_any _ _ _ (ovm4.rd)).mono ?_
      rintro e w' ⟨rfl, rfl⟩
      rw [HM.out]
      go_wp2_with fail
      refine (alive_any _).mono ?_
      rintro e w' ⟨rfl, rfl⟩
      go_wp2_with fail
      go_ret
      exact ⟨ret_bool (by simp), B4⟩

end Go.Proofs.Ytghmgnhiglmifaa
