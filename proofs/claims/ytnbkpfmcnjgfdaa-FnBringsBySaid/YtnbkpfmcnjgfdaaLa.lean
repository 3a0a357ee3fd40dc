/- The walks of the laws of MeasureOk, GrainsOn, BringsBy. Conditions: rows of bytes that came in. -/
import Derived.Test.YtnbkpfmcnjgfdaaDn
import Derived.Test.YtnbkpfmcnjgfdaaNc
import Derived.Test.YtnbkpfmcnjgfdaaGf
import Derived.Test.YtnbkpfmcnjgfdaaEv2
namespace Go.Proofs.Ytnbkpfmcnjgfdaa
open Go.RowKit
set_option linter.unusedVariables false

theorem lit_rd1 (w : World) (x : Int) : IRd (w.alloc (.cells #[.int .i64 x] 3)) (.slice (some ⟨w.heap.size, 0, none⟩) 1 1) [x] :=
  IOwn.rd (base := 0) (World.ownsRow_lit w #[.int .i64 x] 1 (Nat.zero_le _) (by unfold maxLen; omega) rfl)

theorem lit_rd2 (w : World) (x y : Int) : IRd (w.alloc (.cells #[.int .i64 x, .int .i64 y] 3)) (.slice (some ⟨w.heap.size, 0, none⟩) 2 2) [x, y] :=
  IOwn.rd (base := 0) (World.ownsRow_lit w #[.int .i64 x, .int .i64 y] 2 (Nat.zero_le _) (by unfold maxLen; omega) rfl)

/-- the row from the k-th on, turned round -/
def RevRel (w : World) (xs : List Int) (k : Nat) (p : Value) (wr : World) : Prop := IOwn wr w.heap.size p (xs.take k).reverse ∧ Below w.heap.size w wr

theorem rev_cells {w : World} {base g n c : Nat} {ys : List Int} (h : IOwn w base (.slice (some ⟨g, 0, none⟩) n c) ys) : ∀ j u, (ys.map (Value.int .i64))[j]? = some u → w.cell? ((⟨g, 0, none⟩ : Addr).add j) = some u := by
  intro j u hu
  rw [List.getElem?_map] at hu
  cases hx : ys[j]? with
  | none => rw [hx] at hu; cases hu
  | some x =>
    rw [hx] at hu
    obtain rfl := Option.some.inj hu
    rw [addr_add]
    exact IRd.cellk h.rd hx

theorem ints_one (ys : List Int) : ∀ u ∈ ys.map (Value.int .i64), u.oneCell' = true := by
  intro u hu
  obtain ⟨x, -, rfl⟩ := List.mem_map.1 hu
  rfl

theorem mea_36 : meaB [36] = true ∧ meaB [0, 36] = true := by decide

theorem gr_yes {m : List Int} {e : Int} (h : meaB m = true) (k : evB (m.length : Int) e = true) : grI m e = onI m e := by rw [grI, if_pos ⟨h, k⟩]

theorem gr_no {m : List Int} {e : Int} (h : ¬ (meaB m = true ∧ evB (m.length : Int) e = true)) : grI m e = -1 := by rw [grI, if_neg h]

theorem allI_pow {n : Nat} (h1 : 1 ≤ n) (h4 : n ≤ 4) : allI (n : Int) = 2 ^ n - 1 := by
  obtain rfl | rfl | rfl | rfl : n = 1 ∨ n = 2 ∨ n = 3 ∨ n = 4 := by omega
  all_goals decide

theorem gr_sum {m : List Int} {e : Int} (h : meaB m = true) (k : evB (m.length : Int) e = true) : 0 ≤ grI m e ∧ grI m e ≤ 36 ∧ grI m e + grI m (notI (m.length : Int) e) = 36 ∧ 0 ≤ grI m (notI (m.length : Int) e) := by
  obtain ⟨h1, h2, h3, h4⟩ := mea_parts h
  rw [gr_yes h k, gr_yes h (ev_not k), on_notI rfl k, h2]
  have a := onI_bound h1 e
  have b := onI_bound h1 (notI (m.length : Int) e)
  omega

theorem gr_all {m : List Int} (h : meaB m = true) : grI m (2 ^ m.length - 1) = 36 := by
  obtain ⟨h1, h2, h3, h4⟩ := mea_parts h
  rw [gr_yes h, on_all, h2]
  rw [evB_iff, allI_pow h3 h4]
  have h5 : (1 : Int) ≤ 2 ^ m.length := by
    have : (2 : Int) ^ m.length = ((2 ^ m.length : Nat) : Int) := by simp
    have := Nat.one_le_two_pow (n := m.length)
    omega
  omega

theorem br_parts {m g : List Int} (h : brB m g = true) : meaB m = true ∧ gokB g = true ∧ m.length = g.length := by
  rw [brB, Bool.and_eq_true, Bool.and_eq_true, decide_eq_true_eq] at h
  exact h

theorem br_other {m g : List Int} (h : brB m g = true) : timesB g (-1) = true ∧ timesR g (-1) = mulL g (-1) ∧ brB m (mulL g (-1)) = true ∧ brR m (mulL g (-1)) = - brR m g := by
  obtain ⟨h1, h2, h3⟩ := br_parts h
  have ht := times_gok h2 (t := -1) (.inr (.inl rfl))
  have hb : brB m (mulL g (-1)) = true := by rw [brB, h1, (timesB_parts ht).2, mulL_len, decide_eq_true h3]; rfl
  refine ⟨ht, by rw [timesR, if_pos ht], hb, ?_⟩
  rw [br_yes hb, br_yes h, brI_neg]

theorem br_law {m g : List Int} (h : brB m g = true) : 36 * worstI g ≤ brR m g ∧ brR m g ≤ 36 * bestI g ∧ (-1000 ≤ worstI g ∧ worstI g ≤ 1000) ∧ (-1000 ≤ bestI g ∧ bestI g ≤ 1000) ∧ (losesB g = true → brR m g < 0) := by
  obtain ⟨h1, h2, h3⟩ := br_parts h
  obtain ⟨a, b⟩ := br_between h1 h2 h3
  rw [br_yes h]
  refine ⟨a, b, worst_bounds h2, best_bounds h2, fun hl => ?_⟩
  rw [losesB, Bool.and_eq_true, decide_eq_true_eq] at hl
  omega

set_option maxRecDepth 100000 in
set_option maxHeartbeats 8000000 in
theorem FnBringsBy_walk (a0 : Option Addr) (len0 cap0 : Nat) (z0 : List Int) (w : World) (w0 : IsRowC .u8 w a0 len0 cap0 z0) :
    Calls Try.prog 3 #[.slice a0 len0 cap0] w fun e w' => e = .returned (.bool true) ∧ Below w.heap.size w w' := by
  by_cases hlen : 1048576 < len0
  · clear w0
    go_enter Try.func3, Try.ntmps3
    go_wp2
    go_ret
    exact ⟨rfl, Below.refl _ _⟩
  · have hlen' : decide (1048576 < len0) = false := by simpa using hlen
    go_enter Try.func3, Try.ntmps3
    go_wp2_with fail
    refine (drawBringsBy_any _ _ _ _ _ w0).mono ?_
    rintro e w1 ⟨vm, vg, xs, ys, rfl, ovm1, ovg1, hl4, hl5, B1, hne⟩
    clear hlen hlen' w0 hne
    have z1 := B1.size
    have hvm : ∀ g, vm.ownBlock = some g → g < w1.heap.size := fun g hg => (ovm1.ge g hg).2
    have hvg : ∀ g, vg.ownBlock = some g → g < w1.heap.size := fun g hg => (ovg1.ge g hg).2
    rcases Bool.eq_false_or_eq_true (brB xs ys) with hb | hb
    · obtain ⟨q1, q2, q3, q4⟩ := br_other hb
      obtain ⟨l1, l2, ⟨l3, l4⟩, ⟨l5, l6⟩, l7⟩ := br_law hb
      have HG := Lib.hid (br_parts hb).2.1
      obtain ⟨n, hn⟩ : ∃ n, brR xs ys = n := ⟨_, rfl⟩
      rw [hn] at l1 l2 l7 q4
      obtain ⟨a, ha⟩ : ∃ a, worstI ys = a := ⟨_, rfl⟩
      rw [ha] at l1 l3 l4
      obtain ⟨b, hbb⟩ : ∃ b, bestI ys = b := ⟨_, rfl⟩
      rw [hbb] at l2 l5 l6
      obtain ⟨d, hd⟩ : ∃ d, losesB ys = d := ⟨_, rfl⟩
      rw [hd] at l7
      have HB := Lib.hid hb
      have HN := Lib.hid hn
      have HA := Lib.hid ha
      have HBB := Lib.hid hbb
      have HD := Lib.hid hd
      have HQ1 := Lib.hid q1
      have HQ2 := Lib.hid q2
      have HQ3 := Lib.hid q3
      have HQ4 := Lib.hid q4
      have HL7 := Lib.hid l7
      clear hb hn ha hbb hd q1 q2 q3 q4 l7
      have hw1 : IntKind.i64.wrap (36 * a) = 36 * a := IntWalk.i64_in _ (by omega)
      have hw2 : IntKind.i64.wrap (36 * b) = 36 * b := IntWalk.i64_in _ (by omega)
      have hw3 : IntKind.i64.wrap (-n) = -n := IntWalk.i64_in _ (by omega)
      have hge : 36 * a ≤ n := l1
      have hle : n ≤ 36 * b := l2
      go_wp2_with fail
      refine (implBringsBy_any w1 vm vg xs ys (ovm1.rd) (ovg1.rd)).mono ?_
      rintro e w2 ⟨rfl, b2⟩
      rw [HN.out, HB.out]
      have z2 := b2.size
      have B2 := below_step B1 b2 (by omega)
      have ovm2 := ovm1.keep (SameAt.of_below b2)
      have ovg2 := ovg1.keep (SameAt.of_below b2)
      clear B1 b2 ovm1 ovg1
      go_wp2_with fail
      refine (specBringsBy_any w2 vm vg xs ys (ovm2.rd) (ovg2.rd)).mono ?_
      rintro e w3 ⟨rfl, b3⟩
      rw [HN.out, HB.out]
      have z3 := b3.size
      have B3 := below_step B2 b3 (by omega)
      have ovm3 := ovm2.keep (SameAt.of_below b3)
      have ovg3 := ovg2.keep (SameAt.of_below b3)
      clear B2 b3 ovm2 ovg2
      go_wp2_with fail
      refine (implWorstOf_any w3 vg ys (ovg3.rd)).mono ?_
      rintro e w' ⟨rfl, rfl⟩
      rw [HA.out, HG.out]
      go_wp2_with fail
      refine (implBestOf_any w3 vg ys (ovg3.rd)).mono ?_
      rintro e w' ⟨rfl, rfl⟩
      rw [HBB.out, HG.out]
      go_wp2_with fail
      refine (implTimesGamble_any w3 vg ys (-1) (ovg3.rd)).mono ?_
      rintro e w4 ⟨vo, rfl, ovo4, b4⟩
      rw [HQ1.out]
      rw [HQ2.out] at ovo4
      have z4 := b4.size
      have hvo : ∀ g, vo.ownBlock = some g → g < w4.heap.size := fun g hg => (ovo4.ge g hg).2
      have B4 := below_step B3 b4 (by omega)
      have ovm4 := ovm3.keep (SameAt.of_below b4)
      have ovg4 := ovg3.keep (SameAt.of_below b4)
      clear B3 b4 ovm3 ovg3
      go_wp2_with fail
      refine (implBringsBy_any w4 vm vo xs (mulL ys (-1)) (ovm4.rd) (ovo4.rd)).mono ?_
      rintro e w5 ⟨rfl, b5⟩
      rw [HQ4.out, HQ3.out]
      have z5 := b5.size
      have B5 := below_step B4 b5 (by omega)
      have ovm5 := ovm4.keep (SameAt.of_below b5)
      have ovg5 := ovg4.keep (SameAt.of_below b5)
      have ovo5 := ovo4.keep (SameAt.of_below b5)
      clear B4 b5 ovm4 ovg4 ovo4
      go_wp2_with fail
      refine (implLosesOk_any w5 vg ys (ovg5.rd)).mono ?_
      rintro e w' ⟨rfl, rfl⟩
      rw [HD.out]
      cases d
      · go_wp2_with fail
        go_ret
        exact ⟨rfl, B5⟩
      · have hneg : n < 0 := HL7.out rfl
        go_wp2_with fail
        go_ret
        exact ⟨rfl, B5⟩
    · have HB := Lib.hid hb
      have HN := Lib.hid (br_no hb)
      clear hb
      go_wp2_with fail
      refine (implBringsBy_any w1 vm vg xs ys (ovm1.rd) (ovg1.rd)).mono ?_
      rintro e w2 ⟨rfl, b2⟩
      rw [HN.out, HB.out]
      have z2 := b2.size
      have B2 := below_step B1 b2 (by omega)
      have ovm2 := ovm1.keep (SameAt.of_below b2)
      have ovg2 := ovg1.keep (SameAt.of_below b2)
      clear B1 b2 ovm1 ovg1
      go_wp2_with fail
      refine (specBringsBy_any w2 vm vg xs ys (ovm2.rd) (ovg2.rd)).mono ?_
      rintro e w3 ⟨rfl, b3⟩
      rw [HN.out, HB.out]
      have z3 := b3.size
      have B3 := below_step B2 b3 (by omega)
      have ovm3 := ovm2.keep (SameAt.of_below b3)
      have ovg3 := ovg2.keep (SameAt.of_below b3)
      clear B2 b3 ovm2 ovg2
      go_wp2_with fail
      refine (alive_any _).mono ?_
      rintro e w' ⟨rfl, rfl⟩
      go_wp2_with fail
      go_ret
      exact ⟨rfl, B3⟩

end Go.Proofs.Ytnbkpfmcnjgfdaa
