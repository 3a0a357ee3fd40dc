/- Contracts of spec's l8Common, GivenBy, CalledGain, FitsCalled. Conditions: rows that read as lists. -/
import Derived.Test.YtghmgnhiglmifaaWa
import Derived.Test.YtghmgnhiglmifaaRh
import Derived.Test.YtghmgnhiglmifaaMb
import Derived.BigRegion
import Derived.Maps.AppendAt
namespace Go.Proofs.Ytghmgnhiglmifaa
open Go.RowKit
set_option linter.unusedVariables false

theorem gc_step {a b u v : Nat} (h : Nat.gcd v u = Nat.gcd b a) : Nat.gcd (u % v) v = Nat.gcd b a := by
  rw [← h, Nat.gcd_rec v u]

set_option maxRecDepth 100000 in
set_option maxHeartbeats 2000000 in
theorem specCommon_any (a b : Int) (h1 : 0 ≤ a ∧ a ≤ 1000000) (h2 : 0 ≤ b ∧ b ≤ 1000000) (W : World) :
    Calls Try.prog 44 #[.int .i64 a, .int .i64 b] W fun r W' => r = .returned (.int .i64 (gcI a b)) ∧ W = W' := by
  obtain ⟨n, rfl⟩ : ∃ n : Nat, a = n := ⟨a.toNat, by omega⟩
  obtain ⟨d, rfl⟩ : ∃ d : Nat, b = d := ⟨b.toNat, by omega⟩
  have hn : n ≤ 1000000 := by omega
  have hd : d ≤ 1000000 := by omega
  clear h1 h2
  go_enter Try.func44, Try.ntmps44
  go_wp2_with fail
  go_loop [0, 1] (fun x y => ∃ u v : Nat, x = .int .i64 (u : Int) ∧ y = .int .i64 (v : Int) ∧ u ≤ 1000000 ∧ v ≤ 1000000 ∧ Hid (Nat.gcd v u = Nat.gcd d n)) (fun _ y => (intOf y).toNat)
  case atStart => exact ⟨n, d, rfl, rfl, hn, hd, Lib.hid rfl⟩
  case round =>
    obtain ⟨u, v, rfl, rfl, hu, hv, HG⟩ := hrel
    by_cases hv0 : 0 < v
    · have hv1 : (0 : Int) < (v : Int) := by omega
      have hvn : ((v : Int) == 0) = false := by rw [beq_eq_false_iff_ne]; omega
      have ht : (u : Int).tmod (v : Int) = ((u % v : Nat) : Int) := by rw [Int.tmod_eq_emod_of_nonneg (by omega)]; rfl
      have hr : u % v < v := Nat.mod_lt _ hv0
      have HG2 := Lib.hid (gc_step HG.out)
      obtain ⟨x, hx⟩ : ∃ x, u % v = x := ⟨_, rfl⟩
      rw [hx] at ht hr HG2
      clear hx
      go_wp2_with fail
      go_round
      case rel => exact ⟨v, x, rfl, rfl, hv, by omega, HG2⟩
      case measure => simp [intOf]; omega
    · obtain rfl : v = 0 := by omega
      have HE : Hid (u = Nat.gcd n d) := Lib.hid (by have := HG.out; rw [Nat.gcd_zero_left] at this; rw [this, Nat.gcd_comm])
      have HR : Hid (gcI (n : Int) (d : Int) = ((max u 1 : Nat) : Int)) := Lib.hid (by unfold gcI; rw [Int.toNat_natCast, Int.toNat_natCast, ← HE.out])
      clear HG
      by_cases h1 : u < 1
      · have h1' : (u : Int) < 1 := by omega
        go_wp2_with fail
        go_ret
        exact ⟨ret_int (by rw [HR.out]; omega), rfl⟩
      · have h1' : (1 : Int) ≤ (u : Int) := by omega
        go_wp2_with fail
        go_ret
        exact ⟨ret_int (by rw [HR.out]; omega), rfl⟩

/-- a fraction, and whether it is told -/
def FracPost (n d : Int) (b : Bool) (w : World) (e : Ending) (w' : World) : Prop := e = .returned (.tuple #[.int .i64 n, .int .i64 d, .bool b]) ∧ Below w.heap.size w w'

theorem frac_ret {n d x y : Int} {b c : Bool} {w w' : World} (h : n = x) (k : d = y) (l : b = c) (hb : Below w.heap.size w w') : FracPost n d b w (.returned (.tuple #[.int .i64 x, .int .i64 y, .bool c])) w' := by subst h k l; exact ⟨rfl, hb⟩

set_option maxRecDepth 100000 in
set_option maxHeartbeats 4000000 in
theorem specGivenBy_any (w : World) (v : Value) (m : List Int) (a b : Int) (hv : IRd w v m) :
    Calls Try.prog 15 #[v, .int .i64 a, .int .i64 b] w (FracPost (givN m a b) (givD m a b) (givB m a b) w) := by
  obtain ⟨A, c, rfl, hl, hmx, -⟩ := id hv
  have HV : Hid (∀ wr, Below w.heap.size w wr → IRd wr (.slice A m.length c) m) := Lib.hid (fun wr h => hv.keep (SameAt.of_below h))
  clear hv
  rcases Bool.eq_false_or_eq_true (meaB m) with h1 | h1
  · rcases Bool.eq_false_or_eq_true (evB (m.length : Int) a) with h2 | h2
    · rcases Bool.eq_false_or_eq_true (evB (m.length : Int) b) with h3 | h3
      · have HG := Lib.hid (grs_of h1)
        obtain ⟨a1, a2⟩ := evB_15 h2
        obtain ⟨b1, b2⟩ := evB_15 h3
        obtain ⟨y, hy⟩ : ∃ y, onI m b = y := ⟨_, rfl⟩
        have hyb := mea_on h1 b
        rw [hy] at hyb
        by_cases h0 : y = 0
        · subst h0
          have HN : Hid (givB m a b = false) := Lib.hid (by rw [givB, h1, h2, h3, hy]; rfl)
          have HY := Lib.hid hy
          go_enter Try.func15, Try.ntmps15
          go_wp2_with fail
          refine (specMeasureOk_any _ _ _ (HV.out _ (Below.refl _ _))).mono ?_
          rintro r w' ⟨rfl, rfl⟩
          rw [h1]
          go_wp2_with fail
          refine (specEventOk_any _ _ _).mono ?_
          rintro r w' ⟨rfl, rfl⟩
          rw [h2]
          go_wp2_with fail
          refine (specEventOk_any _ _ _).mono ?_
          rintro r w' ⟨rfl, rfl⟩
          rw [h3]
          clear h1 h2 h3 hy
          go_wp2_with fail
          refine (l4On_any _ _ m b (HV.out _ (Below.refl _ _)) HG.out b1 b2).mono ?_
          rintro r w2 ⟨rfl, b3⟩
          rw [HY.out]
          have HB := Lib.hid b3
          clear b3
          go_wp2_with fail
          go_returns
          exact frac_ret (giv_no HN.out).1 (giv_no HN.out).2 HN.out HB.out
        · have hyn : (y == 0) = false := by rw [beq_eq_false_iff_ne]; exact h0
          have HT : Hid (givB m a b = true) := Lib.hid (by rw [givB, h1, h2, h3, hy, hyn]; rfl)
          obtain ⟨x, hx⟩ : ∃ x, onI m (andI a b) = x := ⟨_, rfl⟩
          have hxb := mea_on h1 (andI a b)
          rw [hx] at hxb
          obtain ⟨g, hg⟩ : ∃ g, gcI x y = g := ⟨_, rfl⟩
          have hg1 : 1 ≤ g := by rw [← hg]; exact gcI_pos x y
          have hgn : (g == 0) = false := by rw [beq_eq_false_iff_ne]; omega
          have HGV : Hid (givN m a b = x / g ∧ givD m a b = y / g) := Lib.hid ⟨by rw [givN, if_pos HT.out, hx, hy, hg], by rw [givD, if_pos HT.out, hx, hy, hg]⟩
          have hq1 : x.tdiv g = x / g := Int.tdiv_eq_ediv_of_nonneg hxb.1
          have hq2 : y.tdiv g = y / g := Int.tdiv_eq_ediv_of_nonneg hyb.1
          have hx1 : 0 ≤ x / g ∧ x / g ≤ 36 := ⟨Int.ediv_nonneg hxb.1 (by omega), Int.le_trans (Int.ediv_le_self g hxb.1) hxb.2⟩
          have hy1 : 0 ≤ y / g ∧ y / g ≤ 36 := ⟨Int.ediv_nonneg hyb.1 (by omega), Int.le_trans (Int.ediv_le_self g hyb.1) hyb.2⟩
          have hw1 : wrap64 (x / g) = x / g := IntWalk.wrap64_in _ (by omega)
          have hw2 : wrap64 (y / g) = y / g := IntWalk.wrap64_in _ (by omega)
          have HW := Lib.hid (And.intro hw1 hw2)
          clear hx1 hy1
          have hand := and_is (a := a) (b := b) ⟨a1, a2⟩ ⟨b1, b2⟩
          have hab := and_bound (a := a) (b := b) ⟨a1, a2⟩ ⟨b1, b2⟩
          obtain ⟨z, hz⟩ : ∃ z, andI a b = z := ⟨_, rfl⟩
          rw [hz] at hx hand hab
          have HX := Lib.hid hx
          have HY := Lib.hid hy
          have HGC := Lib.hid hg
          clear hx hy hg hz h0
          go_enter Try.func15, Try.ntmps15
          go_wp2_with fail
          refine (specMeasureOk_any _ _ _ (HV.out _ (Below.refl _ _))).mono ?_
          rintro r w' ⟨rfl, rfl⟩
          rw [h1]
          go_wp2_with fail
          refine (specEventOk_any _ _ _).mono ?_
          rintro r w' ⟨rfl, rfl⟩
          rw [h2]
          go_wp2_with fail
          refine (specEventOk_any _ _ _).mono ?_
          rintro r w' ⟨rfl, rfl⟩
          rw [h3]
          clear h1 h2 h3
          go_wp2_with fail
          refine (l4On_any _ _ m b (HV.out _ (Below.refl _ _)) HG.out b1 b2).mono ?_
          rintro r w2 ⟨rfl, b3⟩
          rw [HY.out]
          have HB := Lib.hid b3
          clear b3
          go_wp2_with fail
          refine (l4On_any _ _ m z (HV.out _ HB.out) HG.out hab.1 hab.2.2).mono ?_
          rintro r w3 ⟨rfl, b3⟩
          rw [HX.out]
          have HB3 := Lib.hid (below_step HB.out b3 HB.out.size)
          clear b3
          go_wp2_with fail
          refine (l4On_any _ _ m b (HV.out _ HB3.out) HG.out b1 b2).mono ?_
          rintro r w4 ⟨rfl, b3⟩
          rw [HY.out]
          have HB4 := Lib.hid (below_step HB3.out b3 HB3.out.size)
          clear b3
          go_wp2_with fail
          refine (specCommon_any x y ⟨hxb.1, by omega⟩ ⟨hyb.1, by omega⟩ _).mono ?_
          rintro r w' ⟨rfl, rfl⟩
          rw [HGC.out]
          clear hab
          go_wp2_with fail
          go_region
          all_goals
            go_wp2_with fail
            go_returns
            exact frac_ret (by first | exact HGV.out.1 | exact HGV.out.1.trans HW.out.1.symm) (by first | exact HGV.out.2 | exact HGV.out.2.trans HW.out.2.symm) HT.out HB4.out.drew
      · have HN : Hid (givB m a b = false) := Lib.hid (by rw [givB, h1, h2, h3]; rfl)
        go_enter Try.func15, Try.ntmps15
        go_wp2_with fail
        refine (specMeasureOk_any _ _ _ (HV.out _ (Below.refl _ _))).mono ?_
        rintro r w' ⟨rfl, rfl⟩
        rw [h1]
        go_wp2_with fail
        refine (specEventOk_any _ _ _).mono ?_
        rintro r w' ⟨rfl, rfl⟩
        rw [h2]
        go_wp2_with fail
        refine (specEventOk_any _ _ _).mono ?_
        rintro r w' ⟨rfl, rfl⟩
        rw [h3]
        go_wp2_with fail
        go_returns
        exact frac_ret (giv_no HN.out).1 (giv_no HN.out).2 HN.out (Below.refl _ _)
    · have HN : Hid (givB m a b = false) := Lib.hid (by rw [givB, h1, h2]; rfl)
      go_enter Try.func15, Try.ntmps15
      go_wp2_with fail
      refine (specMeasureOk_any _ _ _ (HV.out _ (Below.refl _ _))).mono ?_
      rintro r w' ⟨rfl, rfl⟩
      rw [h1]
      go_wp2_with fail
      refine (specEventOk_any _ _ _).mono ?_
      rintro r w' ⟨rfl, rfl⟩
      rw [h2]
      go_wp2_with fail
      go_returns
      exact frac_ret (giv_no HN.out).1 (giv_no HN.out).2 HN.out (Below.refl _ _)
  · have HN : Hid (givB m a b = false) := Lib.hid (by rw [givB, h1]; rfl)
    go_enter Try.func15, Try.ntmps15
    go_wp2_with fail
    refine (specMeasureOk_any _ _ _ (HV.out _ (Below.refl _ _))).mono ?_
    rintro r w' ⟨rfl, rfl⟩
    rw [h1]
    go_wp2_with fail
    go_returns
    exact frac_ret (giv_no HN.out).1 (giv_no HN.out).2 HN.out (Below.refl _ _)

set_option maxRecDepth 100000 in
set_option maxHeartbeats 4000000 in
theorem specFitsCalled_any (w : World) (v : Value) (m : List Int) (a b p : Int) (hv : IRd w v m) :
    Calls Try.prog 26 #[v, .int .i64 a, .int .i64 b, .int .i64 p] w (BoolPost (fcB m a b p) w) := by
  obtain ⟨A, c, rfl, hl, hmx, -⟩ := id hv
  have HV : Hid (∀ wr, Below w.heap.size w wr → IRd wr (.slice A m.length c) m) := Lib.hid (fun wr h => hv.keep (SameAt.of_below h))
  clear hv
  rcases Bool.eq_false_or_eq_true (meaB m) with h1 | h1
  · rcases Bool.eq_false_or_eq_true (evB (m.length : Int) a) with h2 | h2
    · rcases Bool.eq_false_or_eq_true (evB (m.length : Int) b) with h3 | h3
      · rcases Bool.eq_false_or_eq_true (inB p 0 6) with h4 | h4
        · have HG := Lib.hid (grs_of h1)
          obtain ⟨a1, a2⟩ := evB_15 h2
          obtain ⟨b1, b2⟩ := evB_15 h3
          obtain ⟨p1, p2⟩ := (inB_iff _ _ _).1 h4
          obtain ⟨y, hy⟩ : ∃ y, onI m b = y := ⟨_, rfl⟩
          have hyb := mea_on h1 b
          rw [hy] at hyb
          obtain ⟨x, hx⟩ : ∃ x, onI m (andI a b) = x := ⟨_, rfl⟩
          have hxb := mea_on h1 (andI a b)
          rw [hx] at hxb
          have HF : Hid (fcB m a b p = (x * 6 == y * p)) := Lib.hid (by rw [fcB, h1, h2, h3, h4, hx, hy]; rfl)
          have hyp : 0 ≤ y * p ∧ y * p ≤ 36 * 6 := ⟨Int.mul_nonneg hyb.1 p1, Int.mul_le_mul hyb.2 p2 p1 (by decide)⟩
          have hw1 : IntKind.i64.wrap (x * 6) = x * 6 := IntWalk.i64_in _ (by omega)
          have hw2 : IntKind.i64.wrap (y * p) = y * p := IntWalk.i64_in _ (by omega)
          have hand := and_is (a := a) (b := b) ⟨a1, a2⟩ ⟨b1, b2⟩
          have hab := and_bound (a := a) (b := b) ⟨a1, a2⟩ ⟨b1, b2⟩
          obtain ⟨z, hz⟩ : ∃ z, andI a b = z := ⟨_, rfl⟩
          rw [hz] at hx hand hab
          have HX := Lib.hid hx
          have HY := Lib.hid hy
          clear hx hy hz hyp
          go_enter Try.func26, Try.ntmps26
          go_wp2_with fail
          refine (specMeasureOk_any _ _ _ (HV.out _ (Below.refl _ _))).mono ?_
          rintro r w' ⟨rfl, rfl⟩
          rw [h1]
          go_wp2_with fail
          refine (specEventOk_any _ _ _).mono ?_
          rintro r w' ⟨rfl, rfl⟩
          rw [h2]
          go_wp2_with fail
          refine (specEventOk_any _ _ _).mono ?_
          rintro r w' ⟨rfl, rfl⟩
          rw [h3]
          go_wp2_with fail
          refine (l1In_any _ _ _ _).mono ?_
          rintro r w' ⟨rfl, rfl⟩
          rw [h4]
          clear h1 h2 h3 h4
          go_wp2_with fail
          refine (l4On_any _ _ m z (HV.out _ (Below.refl _ _)) HG.out hab.1 hab.2.2).mono ?_
          rintro r w2 ⟨rfl, b3⟩
          rw [HX.out]
          have HB := Lib.hid b3
          clear b3
          go_wp2_with fail
          refine (l4On_any _ _ m b (HV.out _ HB.out) HG.out b1 b2).mono ?_
          rintro r w3 ⟨rfl, b3⟩
          rw [HY.out]
          have HB3 := Lib.hid (below_step HB.out b3 HB.out.size)
          clear b3 hab
          go_wp2_with fail
          go_ret
          exact ⟨ret_bool HF.out.symm, HB3.out⟩
        · have HN : Hid (fcB m a b p = false) := Lib.hid (by rw [fcB, h1, h2, h3, h4]; rfl)
          go_enter Try.func26, Try.ntmps26
          go_wp2_with fail
          refine (specMeasureOk_any _ _ _ (HV.out _ (Below.refl _ _))).mono ?_
          rintro r w' ⟨rfl, rfl⟩
          rw [h1]
          go_wp2_with fail
          refine (specEventOk_any _ _ _).mono ?_
          rintro r w' ⟨rfl, rfl⟩
          rw [h2]
          go_wp2_with fail
          refine (specEventOk_any _ _ _).mono ?_
          rintro r w' ⟨rfl, rfl⟩
          rw [h3]
          go_wp2_with fail
          refine (l1In_any _ _ _ _).mono ?_
          rintro r w' ⟨rfl, rfl⟩
          rw [h4]
          go_wp2_with fail
          go_ret
          exact ⟨ret_bool HN.out.symm, Below.refl _ _⟩
      · have HN : Hid (fcB m a b p = false) := Lib.hid (by rw [fcB, h1, h2, h3]; rfl)
        go_enter Try.func26, Try.ntmps26
        go_wp2_with fail
        refine (specMeasureOk_any _ _ _ (HV.out _ (Below.refl _ _))).mono ?_
        rintro r w' ⟨rfl, rfl⟩
        rw [h1]
        go_wp2_with fail
        refine (specEventOk_any _ _ _).mono ?_
        rintro r w' ⟨rfl, rfl⟩
        rw [h2]
        go_wp2_with fail
        refine (specEventOk_any _ _ _).mono ?_
        rintro r w' ⟨rfl, rfl⟩
        rw [h3]
        go_wp2_with fail
        go_ret
        exact ⟨ret_bool HN.out.symm, Below.refl _ _⟩
    · have HN : Hid (fcB m a b p = false) := Lib.hid (by rw [fcB, h1, h2]; rfl)
      go_enter Try.func26, Try.ntmps26
      go_wp2_with fail
      refine (specMeasureOk_any _ _ _ (HV.out _ (Below.refl _ _))).mono ?_
      rintro r w' ⟨rfl, rfl⟩
      rw [h1]
      go_wp2_with fail
      refine (specEventOk_any _ _ _).mono ?_
      rintro r w' ⟨rfl, rfl⟩
      rw [h2]
      go_wp2_with fail
      go_ret
      exact ⟨ret_bool HN.out.symm, Below.refl _ _⟩
  · have HN : Hid (fcB m a b p = false) := Lib.hid (by rw [fcB, h1]; rfl)
    go_enter Try.func26, Try.ntmps26
    go_wp2_with fail
    refine (specMeasureOk_any _ _ _ (HV.out _ (Below.refl _ _))).mono ?_
    rintro r w' ⟨rfl, rfl⟩
    rw [h1]
    go_wp2_with fail
    go_ret
    exact ⟨ret_bool HN.out.symm, Below.refl _ _⟩

end Go.Proofs.Ytghmgnhiglmifaa
