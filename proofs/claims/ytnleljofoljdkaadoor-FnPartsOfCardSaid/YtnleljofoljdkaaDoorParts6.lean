/- The walk of the exact law of PartsOf. Conditions: the events read as a list; the table of package math/bits is laid. -/
import Derived.Test.YtnleljofoljdkaaDoorParts5
namespace Go.Proofs.YtnleljofoljdkaaDoor
open Go.RowKit
set_option linter.unusedVariables false

theorem partsI_len (n : Int) (xs : List Int) : (partsI n xs).length ≤ 4 := by
  unfold partsI
  by_cases h : okB n xs = true
  · rw [if_pos h, natI_len]
    have hw : wokB n = true := by
      unfold okB at h
      simp only [Bool.and_eq_true] at h
      exact h.1.1
    obtain ⟨h1, h2⟩ := (wokB_iff n).1 hw
    unfold cparts
    rw [List.length_map]
    have := List.length_filter_le (cfirst (rep (keyN xs))) (List.range n.toNat)
    rw [List.length_range] at this
    omega
  · rw [if_neg h]; simp

theorem decide_self {xs : List Int} : decide (xs = xs) = true := by simp

/-- below B the second step keeps what the first one kept -/
theorem below_step {B : Nat} {w w1 w2 : World} (h : Below B w w1) (k : Below w1.heap.size w1 w2) (hB : B ≤ w1.heap.size) : Below B w w2 := h.trans (k.mono hB)

theorem below_grown {B : Nat} {w w1 w2 : World} {v : Value} {base : Nat} {xs : List Int} (h : Below B w w1) (k : w1.grownBy w2 v.ownBlock) (o : IOwn w1 base v xs) (hb : B ≤ base) (hB : B ≤ w1.heap.size) : Below B w w2 :=
  h.grown k hB (fun g hg => by have := (o.ge g hg).1; omega)

theorem own_far {w1 : World} {v u : Value} {base : Nat} {xs : List Int} (o : IOwn w1 base v xs) (h : ∀ g, u.ownBlock = some g → g < base) : u.ownBlock = none ∨ u.ownBlock ≠ v.ownBlock := by
  rcases hu : u.ownBlock with _ | g
  · exact .inl rfl
  · refine .inr fun e => ?_
    have h1 := h g hu
    have h2 := (o.ge g e.symm).1
    omega

theorem own_far' {w1 : World} {v u : Value} {B : Nat} {ys : List Int} (p : IOwn w1 B u ys) (h : ∀ g, v.ownBlock = some g → g < B) : u.ownBlock = none ∨ u.ownBlock ≠ v.ownBlock := by
  rcases hu : u.ownBlock with _ | g
  · exact .inl rfl
  · refine .inr fun e => ?_
    have h1 := h g e.symm
    have h2 := (p.ge g hu).1
    omega

set_option maxHeartbeats 4000000 in
theorem exactPartsOf_any (w : World) (n : Int) (v : Value) (xs : List Int) (hv : IRd w v xs) (ht : Tab w) :
    Calls Tryd.prog 4 #[.int .i64 n, v] w fun e w' => e = .returned (.bool true) ∧ Below w.heap.size w w' := by
  obtain ⟨A, c, rfl, hlc, hm, -⟩ := id hv
  have HV := Lib.hid hv
  have HT := Lib.hid ht
  clear hv ht
  by_cases hbig : 1048576 < xs.length
  · have hbig' : (1048576 : Int) < (xs.length : Int) := by omega
    go_enter Tryd.func4, Tryd.ntmps4
    go_wp2_with fail
    go_ret
    exact ⟨rfl, Below.refl _ _⟩
  · have hbig' : (xs.length : Int) ≤ 1048576 := by omega
    have hn : xs.length ≤ 1048576 := by omega
    have hL := partsI_len n xs
    have ht := lt_of_tab HT.out
    go_enter Tryd.func4, Tryd.ntmps4
    go_wp2_with fail
    refine (toIntS_any w _ xs HV.out hn).mono ?_
    rintro e w1 ⟨va, rfl, oa, b1⟩
    have z1 := b1.size
    go_wp2_with fail
    refine (specPartsOf_any w1 n va xs oa.rd).mono ?_
    rintro e w2 ⟨vb, rfl, ob, b2⟩
    have z2 := b2.size
    have hbg : ∀ g, vb.ownBlock = some g → g < w2.heap.size := fun g hg => (ob.ge g hg).2
    have B2 := below_step b1 b2 z1
    clear b1 b2 oa
    go_wp2_with fail
    refine (toIntS_any w2 _ xs (HV.out.keep (SameAt.of_below B2)) hn).mono ?_
    rintro e w3 ⟨vc, rfl, oc, b3⟩
    have z3 := b3.size
    have B3 := below_step B2 b3 (by omega)
    have ob3 := ob.keep (SameAt.of_below b3)
    clear b3 B2 ob
    go_wp2_with fail
    refine (implPartsOf_any w3 n vc xs oc.rd (HT.out.below B3 ht)).mono ?_
    rintro e w4 ⟨vd, rfl, od, b4⟩
    have z4 := b4.size
    have B4 := below_step B3 b4 (by omega)
    have ob4 := ob3.keep (SameAt.of_below b4)
    have oc4 := oc.keep (SameAt.of_below b4)
    have hcg : ∀ g, vc.ownBlock = some g → g < w3.heap.size := fun g hg => (oc.ge g hg).2
    clear b4 B3 ob3 oc
    go_wp2_with fail
    refine (eqIntS_any w4 vd vb _ _ od.rd ob4.rd).mono ?_
    rintro e w' ⟨q5, rfl, rfl⟩
    rw [decide_self]
    have z5 : w4.heap.size ≤ (w4.drewN q5).heap.size := Nat.le_refl _
    have B5 : Below w.heap.size w (w4.drewN q5) := below_drewN B4 q5
    have ob5 : IOwn (w4.drewN q5) _ vb _ := ob4
    have oc5 : IOwn (w4.drewN q5) _ vc _ := oc4
    have od5 : IOwn (w4.drewN q5) _ vd _ := od
    clear B4 ob4 oc4 od
    generalize w4.drewN q5 = w5 at *
    go_wp2_with fail
    refine (toIntS_any w5 _ xs (HV.out.keep (SameAt.of_below B5)) hn).mono ?_
    rintro e w6 ⟨ve, rfl, oe, b6⟩
    have z6 := b6.size
    have B6 := below_step B5 b6 (by omega)
    have ob6 := ob5.keep (SameAt.of_below b6)
    have oc6 := oc5.keep (SameAt.of_below b6)
    have od6 := od5.keep (SameAt.of_below b6)
    clear B5 ob5 oc5 od5 b6
    go_wp2_with fail
    refine (eqIntS_any w6 vc ve _ _ oc6.rd oe.rd).mono ?_
    rintro e w' ⟨q7, rfl, rfl⟩
    rw [decide_self]
    have z7 : w6.heap.size ≤ (w6.drewN q7).heap.size := Nat.le_refl _
    have B7 : Below w.heap.size w (w6.drewN q7) := below_drewN B6 q7
    have ob7 : IOwn (w6.drewN q7) _ vb _ := ob6
    have oc7 : IOwn (w6.drewN q7) _ vc _ := oc6
    have od7 : IOwn (w6.drewN q7) _ vd _ := od6
    clear B6 ob6 oc6 od6 oe
    generalize w6.drewN q7 = w7 at *
    go_wp2_with fail
    refine (markIntS_any w7 _ 1 vc xs oc7 hn (by decide) (by decide)).mono ?_
    rintro e w8 ⟨rfl, oc8, g8, z8⟩
    have ob8 := ob7.keep (SameAt.of_grown g8 (own_far oc7 hbg))
    have od8 := od7.keep (SameAt.of_grown g8 (own_far' od7 hcg))
    have B8 := below_grown B7 g8 oc7 (by omega) (by omega)
    clear g8 ob7 oc7 od7 B7
    go_wp2_with fail
    refine (eqIntS_any w8 vd vb _ _ od8.rd ob8.rd).mono ?_
    rintro e w' ⟨q9, rfl, rfl⟩
    rw [decide_self]
    have z9 : w8.heap.size ≤ (w8.drewN q9).heap.size := Nat.le_refl _
    have B9 : Below w.heap.size w (w8.drewN q9) := below_drewN B8 q9
    have ob9 : IOwn (w8.drewN q9) _ vb _ := ob8
    have od9 : IOwn (w8.drewN q9) _ vd _ := od8
    clear B8 ob8 oc8 od8
    generalize w8.drewN q9 = w9 at *
    go_wp2_with fail
    refine (markIntS_any w9 _ 1 vd _ od9 (by omega) (by decide) (by decide)).mono ?_
    rintro e w10 ⟨rfl, od10, g10, z10⟩
    have ob10 := ob9.keep (SameAt.of_grown g10 (own_far od9 (fun g hg => by have := hbg g hg; omega)))
    have B10 := below_grown B9 g10 od9 (by omega) (by omega)
    clear g10 ob9 od9 B9
    go_wp2_with fail
    refine (heldIntS_any w10 1 vd _ od10.rd (by omega) (by decide) (by decide)).mono ?_
    rintro e w' ⟨rfl, rfl⟩
    go_wp2_with fail
    refine (toIntS_any w10 _ xs (HV.out.keep (SameAt.of_below B10)) hn).mono ?_
    rintro e w11 ⟨vf, rfl, of, b11⟩
    have z11 := b11.size
    have B11 := below_step B10 b11 (by omega)
    have ob11 := ob10.keep (SameAt.of_below b11)
    have od11 := od10.keep (SameAt.of_below b11)
    clear B10 ob10 od10 b11
    go_wp2_with fail
    refine (implPartsOf_any w11 n vf xs of.rd (HT.out.below B11 ht)).mono ?_
    rintro e w12 ⟨vh, rfl, oh, b12⟩
    have z12 := b12.size
    have B12 := below_step B11 b12 (by omega)
    have ob12 := ob11.keep (SameAt.of_below b12)
    have od12 := od11.keep (SameAt.of_below b12)
    clear B11 ob11 od11 b12 of
    go_wp2_with fail
    refine (eqIntS_any w12 vh vb _ _ oh.rd ob12.rd).mono ?_
    rintro e w' ⟨q13, rfl, rfl⟩
    rw [decide_self]
    have B13 : Below w.heap.size w (w12.drewN q13) := below_drewN B12 q13
    have od13 : IOwn (w12.drewN q13) _ vd _ := od12
    clear B12 ob12 od12 oh
    generalize w12.drewN q13 = w13 at *
    go_wp2_with fail
    refine (heldIntS_any w13 1 vd _ od13.rd (by omega) (by decide) (by decide)).mono ?_
    rintro e w' ⟨rfl, rfl⟩
    go_wp2_with fail
    go_ret
    exact ⟨rfl, B13⟩

end Go.Proofs.YtnleljofoljdkaaDoor
