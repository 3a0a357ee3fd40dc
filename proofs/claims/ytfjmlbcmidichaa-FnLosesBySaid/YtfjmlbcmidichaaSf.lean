/- The walks of the laws of SureLossOf, SafeOk, LosesBy. Conditions: rows of bytes that came in. -/
import Derived.Test.YtfjmlbcmidichaaSi
import Derived.Test.YtfjmlbcmidichaaDx
import Derived.Test.YtfjmlbcmidichaaNj
import Derived.Test.YtfjmlbcmidichaaEv2
namespace Go.Proofs.Ytfjmlbcmidichaa
open Go.RowKit
set_option linter.unusedVariables false

theorem sure_yes {n : Int} {qs : List Qt} (h : lossOk n qs = true) : 1 ≤ sureI n qs := by
  have := sure_loss (loss_got h)
  rw [sureI, if_pos h]
  omega

theorem sure_no {n : Int} {qs : List Qt} (h : lossOk n qs = false) : sureI n qs = 0 := by rw [sureI, h]; rfl

theorem grd_take {α : Type} {c : Nat} {enc : α → List Value} {w : World} {A : Option Addr} {n cp : Nat} {xs : List α} (h : GRd c enc w (.slice A n cp) xs) {k : Nat} (hk : k ≤ n) : GRd c enc w (.slice A k cp) (xs.take k) := by
  obtain ⟨A', cp', e, hl, hm, hc⟩ := h
  injection e with e1 e2 e3
  subst e1
  subst e2
  subst e3
  have hlen : (xs.take k).length = k := by simp; omega
  refine ⟨A, cp, by rw [hlen], by omega, hm, fun h0 => ?_⟩
  obtain ⟨b, off, hA, hb, hcell⟩ := hc (by omega)
  refine ⟨b, off, hA, hb, fun i x hx j u hu => hcell i x ?_ j u hu⟩
  rw [List.getElem?_take] at hx
  split at hx
  · exact hx
  · cases hx

theorem safe_fair (n : Int) (qs : List Qt) : safeB n qs = fairB n qs := by
  rw [safeB, fairB]
  cases hb : bokB n qs with
  | false => rfl
  | true =>
    have h1 : 1 ≤ n := ((bokB_iff _ _).1 hb).1.1
    obtain ⟨m, rfl⟩ : ∃ m : Nat, n = m := ⟨n.toNat, by omega⟩
    rw [lossOk, losing_fair hb, Int.toNat_natCast, Bool.not_not]

theorem safe_take {n : Int} {qs : List Qt} (h : safeB n qs = true) (k : Nat) : safeB n (qs.take k) = true := by
  rw [safe_fair] at h ⊢
  rw [fairB, Bool.and_eq_true] at h
  have hb : bokB n (qs.take k) = true := by
    have h0 := (bokB_iff _ _).1 h.1
    rw [bokB_iff]
    exact ⟨h0.1, by simp; omega, fun q hq => h0.2.2 q (List.mem_of_mem_take hq)⟩
  rw [fairB, hb, any_sub (fun q hq => List.mem_of_mem_take hq) h.2]; rfl

def negS (ss : List Int) : List Int := ss.map fun x => -x

theorem negS_at {ss : List Int} {k : Nat} {x : Int} (h : ss[k]? = some x) : (negS ss)[k]? = some (-x) := by simp [negS, h]

theorem loss_facts {n : Int} {qs : List Qt} {ss : List Int} (h : lossB n qs ss = true) : fairB n qs = false ∧ lossB n qs (negS ss) = false := by
  rw [lossB, Bool.and_eq_true] at h
  obtain ⟨h1, h2⟩ := h
  obtain ⟨w1, w4⟩ := bal_wok h1
  refine ⟨?_, ?_⟩
  · obtain ⟨m, rfl⟩ : ∃ m : Nat, n = m := ⟨n.toNat, by omega⟩
    rw [fairB, Int.toNat_natCast, weak_dual h1 h2, Bool.and_false]
  · rw [← Bool.not_eq_true, lossB, Bool.and_eq_true]
    rintro ⟨h3, h4⟩
    obtain ⟨-, e⟩ := bal_neg h1
    have e : balL n qs (negS ss) = mulL (balL n qs ss) (-1) := e
    rw [losesB, Bool.and_eq_true, decide_eq_true_eq] at h2 h4
    rw [e] at h4
    obtain ⟨b1, b2⟩ := best_greatest h2.1
    obtain ⟨c1, c2⟩ := best_greatest h4.1
    have := c2 (bestI (balL n qs ss) * (-1)) (List.mem_map.2 ⟨_, b1, rfl⟩)
    omega

/-- up to place k the signs are exchanged -/
def NegRel (w : World) (ss : List Int) (t : Bool) (k : Nat) (v : Value) (wr : World) : Prop := ∃ ys, IOwn wr w.heap.size v ys ∧ ys.length = k ∧ (t = true → ys = (negS ss).take k) ∧ Below w.heap.size w wr

theorem NegRel.step {w wr w' : World} {ss ys : List Int} {t : Bool} {k : Nat} {v v' : Value} {x y : Int} (h1 : IOwn wr w.heap.size v ys) (h2 : ys.length = k) (h3 : t = true → ys = (negS ss).take k) (h4 : Below w.heap.size w wr) (hx : ss[k]? = some x) (hy : t = true → y = -x) (ho : IOwn w' w.heap.size v' (ys ++ [y])) (hg : wr.grownBy w' v.ownBlock) : NegRel w ss t (k + 1) v' w' := by
  refine ⟨_, ho, by simp [h2], fun ht => ?_, h4.grown hg h4.size (fun g hg => (h1.ge g hg).1)⟩
  rw [List.take_add_one, negS_at hx, h3 ht, hy ht]
  rfl

theorem NegRel.all {w wr : World} {ss : List Int} {v : Value} (h : NegRel w ss true ss.length v wr) : IOwn wr w.heap.size v (negS ss) := by
  obtain ⟨ys, h1, -, h3, -⟩ := h
  rw [h3 rfl, List.take_of_length_le (by simp [negS])] at h1
  exact h1

theorem loss_small {n : Int} {qs : List Qt} {ss : List Int} (h : lossB n qs ss = true) : ∀ x ∈ ss, -9 ≤ x ∧ x ≤ 9 := by
  rw [lossB, Bool.and_eq_true] at h
  exact ((balB_iff _ _ _).1 h.1).2.2

set_option maxRecDepth 100000 in
set_option maxHeartbeats 8000000 in
theorem FnSureLossOf_walk (a0 : Option Addr) (len0 cap0 : Nat) (z0 : List Int) (w : World) (w0 : IsRowC .u8 w a0 len0 cap0 z0) :
    Calls Try.prog 12 #[.slice a0 len0 cap0] w fun e w' => e = .returned (.bool true) ∧ Below w.heap.size w w' := by
  by_cases hlen : 1048576 < len0
  · clear w0
    go_enter Try.func12, Try.ntmps12
    go_wp2
    go_ret
    exact ⟨rfl, Below.refl _ _⟩
  · have hlen' : decide (1048576 < len0) = false := by simpa using hlen
    go_enter Try.func12, Try.ntmps12
    go_wp2_with fail
    refine (drawSureLossOf_any _ _ _ _ _ w0).mono ?_
    rintro e w1 ⟨n, vb, qs, rfl, ovb1, hl4, B1⟩
    clear hlen hlen' w0
    have z1 := B1.size
    have hvb : ∀ g, vb.ownBlock = some g → g < w1.heap.size := fun g hg => (ovb1.ge g hg).2
    obtain ⟨s, hs⟩ : ∃ s, sureI n qs = s := ⟨_, rfl⟩
    rcases Bool.eq_false_or_eq_true (lossOk n qs) with ht | ht
    · have hs1 := sure_yes ht
      rw [hs] at hs1
      have HT := Lib.hid ht
      have HS := Lib.hid hs
      clear ht hs
      go_wp2_with fail
      refine (implSureLossOf_any w1 n vb qs (ovb1.rd qC_len)).mono ?_
      rintro e w2 ⟨rfl, b2⟩
      rw [HS.out, HT.out]
      have z2 := b2.size
      have B2 := below_step B1 b2 (by omega)
      have ovb2 := ovb1.keep (SameAt.of_below b2)
      clear B1 b2 ovb1
      go_wp2_with fail
      refine (specSureLossOf_any w2 n vb qs (ovb2.rd qC_len)).mono ?_
      rintro e w3 ⟨rfl, b3⟩
      rw [HS.out, HT.out]
      have z3 := b3.size
      have B3 := below_step B2 b3 (by omega)
      have ovb3 := ovb2.keep (SameAt.of_below b3)
      clear B2 b3 ovb2
      go_wp2_with fail
      refine (implLosingStakes_any w3 n vb qs (ovb3.rd qC_len)).mono ?_
      rintro e w4 ⟨vs, rfl, ovs4, b4⟩
      rw [HT.out]
      have z4 := b4.size
      have hvs : ∀ g, vs.ownBlock = some g → g < w4.heap.size := fun g hg => (ovs4.ge g hg).2
      have B4 := below_step B3 b4 (by omega)
      have ovb4 := ovb3.keep (SameAt.of_below b4)
      clear B3 b4 ovb3
      go_wp2_with fail
      go_ret
      exact ⟨rfl, B4⟩
    · have hs1 := sure_no ht
      rw [hs] at hs1
      subst hs1
      have HT := Lib.hid ht
      have HS := Lib.hid hs
      clear ht hs
      go_wp2_with fail
      refine (implSureLossOf_any w1 n vb qs (ovb1.rd qC_len)).mono ?_
      rintro e w2 ⟨rfl, b2⟩
      rw [HS.out, HT.out]
      have z2 := b2.size
      have B2 := below_step B1 b2 (by omega)
      have ovb2 := ovb1.keep (SameAt.of_below b2)
      clear B1 b2 ovb1
      go_wp2_with fail
      refine (specSureLossOf_any w2 n vb qs (ovb2.rd qC_len)).mono ?_
      rintro e w3 ⟨rfl, b3⟩
      rw [HS.out, HT.out]
      have z3 := b3.size
      have B3 := below_step B2 b3 (by omega)
      have ovb3 := ovb2.keep (SameAt.of_below b3)
      clear B2 b3 ovb2
      go_wp2_with fail
      refine (implLosingStakes_any w3 n vb qs (ovb3.rd qC_len)).mono ?_
      rintro e w4 ⟨vs, rfl, ovs4, b4⟩
      rw [HT.out]
      have z4 := b4.size
      have hvs : ∀ g, vs.ownBlock = some g → g < w4.heap.size := fun g hg => (ovs4.ge g hg).2
      have B4 := below_step B3 b4 (by omega)
      have ovb4 := ovb3.keep (SameAt.of_below b4)
      clear B3 b4 ovb3
      go_wp2_with fail
      refine (alive_any _).mono ?_
      rintro e w' ⟨rfl, rfl⟩
      go_wp2_with fail
      go_ret
      exact ⟨rfl, B4⟩

set_option maxRecDepth 100000 in
set_option maxHeartbeats 8000000 in
theorem FnSafeOk_walk (a0 : Option Addr) (len0 cap0 : Nat) (z0 : List Int) (w : World) (w0 : IsRowC .u8 w a0 len0 cap0 z0) :
    Calls Try.prog 11 #[.slice a0 len0 cap0] w fun e w' => e = .returned (.bool true) ∧ Below w.heap.size w w' := by
  by_cases hlen : 1048576 < len0
  · clear w0
    go_enter Try.func11, Try.ntmps11
    go_wp2
    go_ret
    exact ⟨rfl, Below.refl _ _⟩
  · have hlen' : decide (1048576 < len0) = false := by simpa using hlen
    go_enter Try.func11, Try.ntmps11
    go_wp2_with fail
    refine (drawSafeOk_any _ _ _ _ _ w0).mono ?_
    rintro e w1 ⟨n, vb, qs, rfl, ovb1, hl4, B1⟩
    clear hlen hlen' w0
    have z1 := B1.size
    have hvb : ∀ g, vb.ownBlock = some g → g < w1.heap.size := fun g hg => (ovb1.ge g hg).2
    obtain ⟨A, c, rfl, hlc, hm⟩ := (ovb1.rd qC_len).form
    rcases Bool.eq_false_or_eq_true (safeB n qs) with ht | ht
    · have HK : Hid (∀ k, safeB n (qs.take k) = true) := Lib.hid (safe_take ht)
      have HF : Hid (fairB n qs = true) := Lib.hid (by rw [← safe_fair]; exact ht)
      have HT := Lib.hid ht
      clear ht
      go_wp2_with fail
      refine (implSafeOk_any w1 n _ qs (ovb1.rd qC_len)).mono ?_
      rintro e w2 ⟨rfl, b2⟩
      rw [HT.out]
      have z2 := b2.size
      have B2 := below_step B1 b2 (by omega)
      have ovb2 := ovb1.keep (SameAt.of_below b2)
      clear B1 b2 ovb1
      go_wp2_with fail
      refine (specSafeOk_any w2 n _ qs (ovb2.rd qC_len)).mono ?_
      rintro e w3 ⟨rfl, b3⟩
      rw [HT.out]
      have z3 := b3.size
      have B3 := below_step B2 b3 (by omega)
      have ovb3 := ovb2.keep (SameAt.of_below b3)
      clear B2 b3 ovb2
      go_wp2_with fail
      refine (implFairOk_any w3 n _ qs (ovb3.rd qC_len)).mono ?_
      rintro e w4 ⟨rfl, b4⟩
      rw [HF.out]
      have z4 := b4.size
      have B4 := below_step B3 b4 (by omega)
      have ovb4 := ovb3.keep (SameAt.of_below b4)
      clear B3 b4 ovb3
      by_cases hz : qs.length = 0
      · have hz0 : ((qs.length : Int)) = 0 := by omega
        go_wp2_with fail
        refine (alive_any _).mono ?_
        rintro e w' ⟨rfl, rfl⟩
        go_wp2_with fail
        go_ret
        exact ⟨rfl, B4⟩
      · have hz1 : (1 : Int) ≤ (qs.length : Int) := by omega
        have hz4 : (qs.length : Int) ≤ 4 := by omega
        obtain ⟨k, hk⟩ : ∃ k, qs.length = k + 1 := ⟨qs.length - 1, by omega⟩
        have hk1 : (qs.length : Int) - 1 = (k : Int) := by omega
        have hk2 : (k : Int) ≤ (c : Int) := by omega
        go_wp2_with fail
        refine (implSafeOk_any w4 n _ (qs.take k) (grd_take (ovb4.rd qC_len) (by omega))).mono ?_
        rintro e w5 ⟨rfl, b5⟩
        rw [HK.out k]
        have z5 := b5.size
        have B5 := below_step B4 b5 (by omega)
        have ovb5 := ovb4.keep (SameAt.of_below b5)
        clear B4 b5 ovb4
        go_wp2_with fail
        refine (alive_any _).mono ?_
        rintro e w' ⟨rfl, rfl⟩
        go_wp2_with fail
        go_ret
        exact ⟨rfl, B5⟩
    · have HF : Hid (fairB n qs = false) := Lib.hid (by rw [← safe_fair]; exact ht)
      have HT := Lib.hid ht
      clear ht
      go_wp2_with fail
      refine (implSafeOk_any w1 n _ qs (ovb1.rd qC_len)).mono ?_
      rintro e w2 ⟨rfl, b2⟩
      rw [HT.out]
      have z2 := b2.size
      have B2 := below_step B1 b2 (by omega)
      have ovb2 := ovb1.keep (SameAt.of_below b2)
      clear B1 b2 ovb1
      go_wp2_with fail
      refine (specSafeOk_any w2 n _ qs (ovb2.rd qC_len)).mono ?_
      rintro e w3 ⟨rfl, b3⟩
      rw [HT.out]
      have z3 := b3.size
      have B3 := below_step B2 b3 (by omega)
      have ovb3 := ovb2.keep (SameAt.of_below b3)
      clear B2 b3 ovb2
      go_wp2_with fail
      refine (implFairOk_any w3 n _ qs (ovb3.rd qC_len)).mono ?_
      rintro e w4 ⟨rfl, b4⟩
      rw [HF.out]
      have z4 := b4.size
      have B4 := below_step B3 b4 (by omega)
      have ovb4 := ovb3.keep (SameAt.of_below b4)
      clear B3 b4 ovb3
      go_wp2_with fail
      refine (alive_any _).mono ?_
      rintro e w' ⟨rfl, rfl⟩
      go_wp2_with fail
      go_ret
      exact ⟨rfl, B4⟩

set_option maxRecDepth 100000 in
set_option maxHeartbeats 8000000 in
theorem FnLosesBy_walk (a0 : Option Addr) (len0 cap0 : Nat) (z0 : List Int) (w : World) (w0 : IsRowC .u8 w a0 len0 cap0 z0) :
    Calls Try.prog 9 #[.slice a0 len0 cap0] w fun e w' => e = .returned (.bool true) ∧ Below w.heap.size w w' := by
  by_cases hlen : 1048576 < len0
  · clear w0
    go_enter Try.func9, Try.ntmps9
    go_wp2
    go_ret
    exact ⟨rfl, Below.refl _ _⟩
  · have hlen' : decide (1048576 < len0) = false := by simpa using hlen
    go_enter Try.func9, Try.ntmps9
    go_wp2_with fail
    refine (drawLosesBy_any _ _ _ _ _ w0).mono ?_
    rintro e w1 ⟨n, vb, vu, qs, ss, rfl, ovb1, ovu1, hl4, hl8, B1⟩
    clear hlen hlen' w0
    have z1 := B1.size
    have hvu : ∀ g, vu.ownBlock = some g → g < w1.heap.size := fun g hg => (ovu1.ge g hg).2
    have hvb : ∀ g, vb.ownBlock = some g → g < w1.heap.size := fun g hg => (ovb1.ge g hg).2
    obtain ⟨A2, c2, rfl, hlc2, hm2, -⟩ := id ovu1.rd
    obtain ⟨t, ht⟩ : ∃ t, lossB n qs ss = t := ⟨_, rfl⟩
    have hft : t = true → fairB n qs = false ∧ lossB n qs (negS ss) = false := fun h => loss_facts (by rw [ht, h])
    have hsm : t = true → ∀ x ∈ ss, -9 ≤ x ∧ x ≤ 9 := fun h => loss_small (by rw [ht, h])
    have HFT := Lib.hid hft
    have HSM := Lib.hid hsm
    have HT := Lib.hid ht
    clear ht hft hsm
    go_wp2_with fail
    refine (implLosesBy_any w1 n vb _ qs ss (ovb1.rd qC_len) (ovu1.rd)).mono ?_
    rintro e w2 ⟨rfl, b2⟩
    rw [HT.out]
    have z2 := b2.size
    have B2 := below_step B1 b2 (by omega)
    have ovb2 := ovb1.keep (SameAt.of_below b2)
    have ovu2 := ovu1.keep (SameAt.of_below b2)
    clear B1 b2 ovb1 ovu1
    go_wp2_with fail
    refine (specLosesBy_any w2 n vb _ qs ss (ovb2.rd qC_len) (ovu2.rd)).mono ?_
    rintro e w3 ⟨rfl, b3⟩
    rw [HT.out]
    have z3 := b3.size
    have B3 := below_step B2 b3 (by omega)
    have ovb3 := ovb2.keep (SameAt.of_below b3)
    have ovu3 := ovu2.keep (SameAt.of_below b3)
    clear B2 b3 ovb2 ovu2
    have HVB := Lib.hid ovb3
    have HVU := Lib.hid ovu3
    have HBJ := Lib.hid B3
    have HZJ : Hid (w.heap.size ≤ w3.heap.size) := Lib.hid B3.size
    clear ovb3 ovu3 B3
    obtain ⟨i0, hi, hz0, hz1, hz2⟩ := info_parts Try_intinfo
    have H0 : Hid (∀ t : Bool, NegRel w3 ss t 0 (.slice (some ⟨w3.heap.size, 0, none⟩) 0 0) (w3.alloc (.cells #[] 3))) := Lib.hid fun t => ⟨[], lit_own w3 w3.heap.size (Nat.le_refl _), rfl, fun _ => rfl, (Below.refl _ _).alloc (Nat.le_refl _) _⟩
    cases t
    · skip
      go_wp2_with fail
      go_loopw [7, 8] (fun p i wr => ∃ k : Nat, i = .int .i64 (k : Int) ∧ k ≤ ss.length ∧ Hid (NegRel w3 ss false k p wr)) (fun _ i _ => ss.length + 1 - (intOf i).toNat)
      case atStart => exact ⟨0, rfl, Nat.zero_le _, Lib.hid (H0.out false)⟩
      case round =>
        obtain ⟨k, rfl, hk, HR⟩ := hrel
        clear H0
        obtain ⟨ys, r1, r2, r3, r4⟩ := id HR.out
        have hsz := r4.size
        have R1 := Lib.hid r1
        have R2 := Lib.hid r2
        have R3 := Lib.hid r3
        have R4 := Lib.hid r4
        by_cases hlt : k < ss.length
        · have hlt2 : (k : Int) < (ss.length : Int) := by omega
          obtain ⟨b, off, x, rfl, hb, hx, hcx⟩ := (HVU.out.keep (SameAt.of_below r4)).rd.at_ hlt
          have HX := Lib.hid hx
          have HY : Hid (false = true → wrap64 (-x) = -x) := Lib.hid (fun h => by simp at h)
          have hown0 := r1
          unfold IOwn at hown0
          rw [r2] at hown0
          have hown := Lib.hid (World.ownsRow.alloc (w := wr) hown0 (.cells #[.int .i64 (wrap64 (-x))] 3))
          clear hown0 r1 r2 r3 r4 hx
          go_wp2_with (at_builtin; refine wpList_append_own _ rfl _ _ 26 rfl w3.heap.size 3 i0 (.int .i64 0) 1 8 Try.underlying26 hi hz0 hz1 hz2 rfl (by decide) _ _ _ rfl hown.out ⟨wr.heap.size, 0, none⟩ 1 1 [.int .i64 (wrap64 (-x))] rfl rfl (one_new wr _ _) one_int ?falsec3 ?falsec4 ?falsec5 ?_)
          case falsec3 => unfold maxLen; omega
          case falsec4 => omega
          case falsec5 => first | omega | (simp; omega)
          intro v' w' hown' hgrow _
          have HL := Lib.hid (NegRel.step (t := false) R1.out R2.out (fun h => by simp at h) R4.out HX.out (fun h => by simp at h) (show IOwn w' w3.heap.size v' (ys ++ [wrap64 (-x)]) from by unfold IOwn; simpa [R2.out] using hown') (grown_after (w := wr) ((Below.refl _ wr).alloc (Nat.le_refl _) _) hgrow))
          clear hown' hgrow hown hcx
          go_wp2_with fail
          go_roundw
          case rel => exact ⟨k + 1, by go_num, by omega, HL⟩
          case measure => simp [intOf]; omega
        · obtain rfl : k = ss.length := by omega
          have HBR := Lib.hid (below_step HBJ.out R4.out HZJ.out)
          have HBK := Lib.hid (HVB.out.keep (SameAt.of_below R4.out))
          clear hlt r1 r2 r3 r4
          clear HR
          go_wp2_with fail
          refine (alive_any _).mono ?_
          rintro e w' ⟨rfl, rfl⟩
          go_wp2_with fail
          go_ret
          exact ⟨rfl, HBR.out⟩
    · skip
      go_wp2_with fail
      go_loopw [7, 8] (fun p i wr => ∃ k : Nat, i = .int .i64 (k : Int) ∧ k ≤ ss.length ∧ Hid (NegRel w3 ss true k p wr)) (fun _ i _ => ss.length + 1 - (intOf i).toNat)
      case atStart => exact ⟨0, rfl, Nat.zero_le _, Lib.hid (H0.out true)⟩
      case round =>
        obtain ⟨k, rfl, hk, HR⟩ := hrel
        clear H0
        obtain ⟨ys, r1, r2, r3, r4⟩ := id HR.out
        have hsz := r4.size
        have R1 := Lib.hid r1
        have R2 := Lib.hid r2
        have R3 := Lib.hid r3
        have R4 := Lib.hid r4
        by_cases hlt : k < ss.length
        · have hlt2 : (k : Int) < (ss.length : Int) := by omega
          obtain ⟨b, off, x, rfl, hb, hx, hcx⟩ := (HVU.out.keep (SameAt.of_below r4)).rd.at_ hlt
          have HX := Lib.hid hx
          have HY : Hid (true = true → wrap64 (-x) = -x) := Lib.hid (fun _ => by have := HSM.out (by simp) x (List.mem_of_getElem? hx); unfold wrap64; omega)
          have hown0 := r1
          unfold IOwn at hown0
          rw [r2] at hown0
          have hown := Lib.hid (World.ownsRow.alloc (w := wr) hown0 (.cells #[.int .i64 (wrap64 (-x))] 3))
          clear hown0 r1 r2 r3 r4 hx
          go_wp2_with (at_builtin; refine wpList_append_own _ rfl _ _ 26 rfl w3.heap.size 3 i0 (.int .i64 0) 1 8 Try.underlying26 hi hz0 hz1 hz2 rfl (by decide) _ _ _ rfl hown.out ⟨wr.heap.size, 0, none⟩ 1 1 [.int .i64 (wrap64 (-x))] rfl rfl (one_new wr _ _) one_int ?truec3 ?truec4 ?truec5 ?_)
          case truec3 => unfold maxLen; omega
          case truec4 => omega
          case truec5 => first | omega | (simp; omega)
          intro v' w' hown' hgrow _
          have HL := Lib.hid (NegRel.step (t := true) R1.out R2.out (fun _ => R3.out trivial) R4.out HX.out (fun _ => HY.out trivial) (show IOwn w' w3.heap.size v' (ys ++ [wrap64 (-x)]) from by unfold IOwn; simpa [R2.out] using hown') (grown_after (w := wr) ((Below.refl _ wr).alloc (Nat.le_refl _) _) hgrow))
          clear hown' hgrow hown hcx
          go_wp2_with fail
          go_roundw
          case rel => exact ⟨k + 1, by go_num, by omega, HL⟩
          case measure => simp [intOf]; omega
        · obtain rfl : k = ss.length := by omega
          have HBR := Lib.hid (below_step HBJ.out R4.out HZJ.out)
          have HBK := Lib.hid (HVB.out.keep (SameAt.of_below R4.out))
          clear hlt r1 r2 r3 r4
          have HO := Lib.hid HR.out.all
          have HFF := Lib.hid (HFT.out (by simp))
          clear HR
          go_wp2_with fail
          refine (implFairOk_any wr n vb qs (HBK.out.rd qC_len)).mono ?_
          rintro e wa ⟨rfl, ba⟩
          rw [HFF.out.1]
          have HA := Lib.hid (below_step HBR.out ba HBR.out.size)
          have HOA := Lib.hid (HO.out.keep (SameAt.of_below ba))
          have HBA := Lib.hid (HBK.out.keep (SameAt.of_below ba))
          clear ba
          go_wp2_with fail
          refine (implLosesBy_any wa n vb _ qs (negS ss) (HBA.out.rd qC_len) HOA.out.rd).mono ?_
          rintro e wb ⟨rfl, bb⟩
          rw [HFF.out.2]
          have HB := Lib.hid (below_step HA.out bb HA.out.size)
          clear bb
          go_wp2_with fail
          refine (alive_any _).mono ?_
          rintro e w' ⟨rfl, rfl⟩
          go_wp2_with fail
          go_ret
          exact ⟨rfl, HB.out⟩

end Go.Proofs.Ytfjmlbcmidichaa
