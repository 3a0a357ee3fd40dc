/- Contracts of spec's functions of chapter 11: l11Score, ScoreOf, ExpectedScore, FarApart, TotalScore. Conditions: rows that read as lists. -/
import Derived.Test.YtnkgnhnggjoglaaFa
import Derived.Test.YtnkgnhnggjoglaaMb
import Derived.Test.YtnkgnhnggjoglaaKit
import Derived.BigRegion
import Derived.Deep.RegionHeld3
namespace Go.Proofs.Ytnkgnhnggjoglaa
open Go.RowKit
set_option linter.unusedVariables false

theorem sq36 {z : Int} (h1 : -36 ≤ z) (h2 : z ≤ 36) : 0 ≤ z * z ∧ z * z ≤ 1296 := by
  refine ⟨mul_self_nonneg z, ?_⟩
  have := Int.mul_nonneg (show 0 ≤ 36 - z by omega) (show 0 ≤ 36 + z by omega)
  have e : (36 - z) * (36 + z) = 1296 - z * z := by grind
  omega

theorem off_near {m : List Int} (h : Grs m) (x : Int) {k : Nat} (hk : k < m.length) : -36 ≤ offI m x k ∧ offI m x k ≤ 36 := by
  have := h.1 _ (at0_mem hk)
  unfold offI
  split <;> omega

theorem off_bound {m : List Int} (h : Grs m) (x : Int) (k : Nat) (hk : k ≤ m.length) : 0 ≤ rsum (fun k => offI m x k * offI m x k) k ∧ rsum (fun k => offI m x k * offI m x k) k ≤ 1296 * (k : Int) := by
  induction k with
  | zero => simp
  | succ k ih =>
    have h1 := ih (by omega)
    have h2 := off_near h x (show k < m.length by omega)
    have h3 := sq36 h2.1 h2.2
    rw [rsum_succ]; omega

theorem sc_bound {m : List Int} (h : Grs m) (x : Int) : 0 ≤ scI m x ∧ scI m x ≤ 5184 := by
  have h1 := off_bound h x m.length (Nat.le_refl _)
  have h2 := h.2
  rw [scI]; omega

set_option maxHeartbeats 2000000 in
theorem l11Score_any (w : World) (v : Value) (m : List Int) (x0 : Int) (hv : IRd w v m) (hm : Grs m) :
    Calls Try.prog 60 #[v, .int .i64 x0] w fun r w' => r = .returned (.int .i64 (scI m x0)) ∧ w = w' := by
  obtain ⟨A, c, rfl, hl, hmx, -⟩ := id hv
  have HV := Lib.hid hv
  have HM := Lib.hid hm
  have hm4 := hm.2
  clear hv hm
  go_enter Try.func60, Try.ntmps60
  go_wp2_with fail
  go_loop [5, 6] (fun s i => ∃ k : Nat, s = .int .i64 (rsum (fun k => offI m x0 k * offI m x0 k) k) ∧ i = .int .i64 (k : Int) ∧ k ≤ m.length) (fun _ i => m.length - (intOf i).toNat)
  case atStart => exact ⟨0, rfl, rfl, Nat.zero_le _⟩
  case round =>
    obtain ⟨k, rfl, rfl, hk⟩ := hrel
    obtain ⟨s, hs⟩ : ∃ s, rsum (fun k => offI m x0 k * offI m x0 k) k = s := ⟨_, rfl⟩
    have hsb := off_bound HM.out x0 k hk
    have hss := rsum_succ (fun k => offI m x0 k * offI m x0 k) k
    have HS := Lib.hid hs
    simp only [hs] at hsb hss ⊢
    clear hs
    by_cases hlt : k < m.length
    · have hlt' : (k : Int) < (m.length : Int) := by omega
      obtain ⟨b, off, x, rfl, -, hx, hcx⟩ := HV.out.at_ hlt
      have bx := HM.out.1 x (List.mem_of_getElem? hx)
      have ha := at0_of hx
      by_cases he : (k : Int) = x0
      · have heq : ((k : Int) == x0) = true := by simpa using he
        obtain ⟨z, hz⟩ : ∃ z, x - 36 = z := ⟨_, rfl⟩
        have ho : offI m x0 k = z := by rw [offI, if_pos he, ha, hz]
        have hw1 : IntKind.i64.wrap (x - 36) = z := by rw [hz]; exact IntWalk.i64_in _ (by omega)
        have h3 := sq36 (z := z) (by omega) (by omega)
        obtain ⟨q, hq⟩ : ∃ q, z * z = q := ⟨_, rfl⟩
        have hw2 : IntKind.i64.wrap (z * z) = q := by rw [hq]; exact IntWalk.i64_in _ (by omega)
        obtain ⟨d, hd⟩ : ∃ d, s + q = d := ⟨_, rfl⟩
        have hw3 : IntKind.i64.wrap (s + q) = d := by rw [hd]; exact IntWalk.i64_in _ (by omega)
        rw [ho, hq, hd] at hss
        have HD := Lib.hid hss
        clear hss ho ha hx hz hq hd he h3
        go_wp2_with fail
        go_round
        case rel => exact ⟨k + 1, by rw [HD.out], by go_num, by omega⟩
        case measure => simp [intOf]; omega
      · have heq : ((k : Int) == x0) = false := by simpa using he
        have ho : offI m x0 k = x := by rw [offI, if_neg he, ha]
        have h3 := sq36 (z := x) (by omega) (by omega)
        obtain ⟨q, hq⟩ : ∃ q, x * x = q := ⟨_, rfl⟩
        have hw2 : IntKind.i64.wrap (x * x) = q := by rw [hq]; exact IntWalk.i64_in _ (by omega)
        obtain ⟨d, hd⟩ : ∃ d, s + q = d := ⟨_, rfl⟩
        have hw3 : IntKind.i64.wrap (s + q) = d := by rw [hd]; exact IntWalk.i64_in _ (by omega)
        rw [ho, hq, hd] at hss
        have HD := Lib.hid hss
        clear hss ho ha hx hq hd he h3
        go_wp2_with fail
        go_round
        case rel => exact ⟨k + 1, by rw [HD.out], by go_num, by omega⟩
        case measure => simp [intOf]; omega
    · obtain rfl : k = m.length := by omega
      have hlt' : decide ((m.length : Int) < (m.length : Int)) = false := by simp
      go_wp2_with fail
      go_ret
      exact ⟨by rw [← HS.out]; rfl, rfl⟩

set_option maxHeartbeats 2000000 in
theorem specScoreOf_any (w : World) (v : Value) (m : List Int) (x0 : Int) (hv : IRd w v m) :
    Calls Try.prog 20 #[v, .int .i64 x0] w fun r w' => r = .returned (.int .i64 (scR m x0)) ∧ w = w' := by
  obtain ⟨A, c, rfl, hl, hmx, -⟩ := id hv
  have HV := Lib.hid hv
  clear hv
  go_enter Try.func20, Try.ntmps20
  go_wp2_with fail
  refine (specMeasureOk_any w _ m HV.out).mono ?_
  rintro r w' ⟨rfl, rfl⟩
  obtain ⟨t, ht⟩ : ∃ t, meaB m = t := ⟨_, rfl⟩
  rw [ht]
  cases t
  · have HR : Hid (scR m x0 = -1) := Lib.hid (by rw [scR, if_neg (by rw [scB, ht]; simp)])
    clear ht
    go_wp2_with fail
    go_ret
    exact ⟨by rw [HR.out]; rfl, rfl⟩
  · have HG := Lib.hid (grs_of ht)
    have hm4 := (grs_of ht).2
    have hw1 : IntKind.i64.wrap ((m.length : Int) - 1) = (m.length : Int) - 1 := IntWalk.i64_in _ (by omega)
    obtain ⟨u, hu⟩ : ∃ u, inB x0 0 ((m.length : Int) - 1) = u := ⟨_, rfl⟩
    have HR : Hid (scR m x0 = if u = true then scI m x0 else -1) := Lib.hid (by rw [scR, scB, ht, hu, Bool.true_and])
    clear ht
    go_wp2_with fail
    refine (l1In_any _ _ _ _).mono ?_
    rintro r w' ⟨rfl, rfl⟩
    rw [hu]
    clear hu
    cases u
    · go_wp2_with fail
      go_ret
      exact ⟨by rw [HR.out]; rfl, rfl⟩
    · go_wp2_with fail
      refine (l11Score_any _ _ m x0 HV.out HG.out).mono ?_
      rintro r w' ⟨rfl, rfl⟩
      go_wp2_with fail
      go_ret
      exact ⟨by rw [HR.out]; rfl, rfl⟩

theorem far_part {a b : List Int} (ha : Grs a) (hb : Grs b) (he : a.length = b.length) (k : Nat) (hk : k ≤ a.length) : 0 ≤ rsum (fun k => (at0 a k - at0 b k) * (at0 a k - at0 b k)) k ∧ rsum (fun k => (at0 a k - at0 b k) * (at0 a k - at0 b k)) k ≤ 1296 * (k : Int) := by
  induction k with
  | zero => simp
  | succ k ih =>
    have h1 := ih (by omega)
    have h2 := ha.1 _ (at0_mem (show k < a.length by omega))
    have h3 := hb.1 _ (at0_mem (show k < b.length by omega))
    have h4 := sq36 (z := at0 a k - at0 b k) (by omega) (by omega)
    rw [rsum_succ]; omega

theorem mul_near {x y : Int} (h : 0 ≤ x ∧ x ≤ 36) (k : 0 ≤ y ∧ y ≤ 5184) : 0 ≤ x * y ∧ x * y ≤ 186624 := by
  refine ⟨Int.mul_nonneg h.1 k.1, ?_⟩
  have h1 := Int.mul_le_mul_of_nonneg_right h.2 k.1
  omega

theorem exp_part {a b : List Int} (ha : Grs a) (hb : Grs b) (k : Nat) (hk : k ≤ a.length) : 0 ≤ rsum (fun k => at0 a k * scI b (k : Int)) k ∧ rsum (fun k => at0 a k * scI b (k : Int)) k ≤ 186624 * (k : Int) := by
  induction k with
  | zero => simp
  | succ k ih =>
    have h1 := ih (by omega)
    have h4 := mul_near (ha.1 _ (at0_mem (show k < a.length by omega))) (sc_bound hb (k : Int))
    rw [rsum_succ]; omega

set_option maxHeartbeats 4000000 in
theorem specFarApart_any (w : World) (v u : Value) (a b : List Int) (hv : IRd w v a) (hu : IRd w u b) :
    Calls Try.prog 27 #[v, u] w (IntPost (farR a b) w) := by
  obtain ⟨A, c, rfl, hl, hmx, -⟩ := id hv
  obtain ⟨A', c', rfl, hl', hmx', -⟩ := id hu
  have HV := Lib.hid hv
  have HU := Lib.hid hu
  clear hv hu
  go_enter Try.func27, Try.ntmps27
  go_wp2_with fail
  refine (specMeasureOk_any w _ a HV.out).mono ?_
  rintro r w' ⟨rfl, rfl⟩
  obtain ⟨t, ht⟩ : ∃ t, meaB a = t := ⟨_, rfl⟩
  rw [ht]
  cases t
  · have HR : Hid (farR a b = -1) := Lib.hid (by rw [farR, if_neg (by rw [twoB, ht]; simp)])
    clear ht
    go_wp2_with fail
    go_ret
    exact ⟨by rw [HR.out]; rfl, Below.refl _ _⟩
  · go_wp2_with fail
    refine (specMeasureOk_any w _ b HU.out).mono ?_
    rintro r w' ⟨rfl, rfl⟩
    obtain ⟨u, hu⟩ : ∃ u, meaB b = u := ⟨_, rfl⟩
    rw [hu]
    cases u
    · have HR : Hid (farR a b = -1) := Lib.hid (by rw [farR, if_neg (by rw [twoB, ht, hu]; simp)])
      clear ht hu
      go_wp2_with fail
      go_ret
      exact ⟨by rw [HR.out]; rfl, Below.refl _ _⟩
    · by_cases he : a.length = b.length
      · have HR : Hid (farR a b = farI a b) := Lib.hid (by rw [farR, if_pos ((twoB_iff a b).2 ⟨ht, hu, he⟩)])
        have HGA := Lib.hid (grs_of ht)
        have HGB := Lib.hid (grs_of hu)
        have hm4 := (grs_of ht).2
        have hne : ((a.length : Int) != (b.length : Int)) = false := by rw [he]; simp
        have HE := Lib.hid he
        clear ht hu he
        go_wp2_with fail
        go_loopw [5, 6] (fun s i wr => ∃ k : Nat, s = .int .i64 (rsum (fun k => (at0 a k - at0 b k) * (at0 a k - at0 b k)) k) ∧ i = .int .i64 (k : Int) ∧ k ≤ a.length ∧ Hid (Below w.heap.size w wr)) (fun _ i _ => a.length - (intOf i).toNat)
        case atStart => exact ⟨0, rfl, rfl, Nat.zero_le _, Lib.hid (Below.refl _ _)⟩
        case round =>
          obtain ⟨k, rfl, rfl, hk, HW⟩ := hrel
          obtain ⟨s, hs⟩ : ∃ s, rsum (fun k => (at0 a k - at0 b k) * (at0 a k - at0 b k)) k = s := ⟨_, rfl⟩
          have hsb := far_part HGA.out HGB.out HE.out k hk
          have hss := rsum_succ (fun k => (at0 a k - at0 b k) * (at0 a k - at0 b k)) k
          have HS := Lib.hid hs
          simp only [hs] at hsb hss ⊢
          clear hs
          by_cases hlt : k < a.length
          · have hlt' : (k : Int) < (a.length : Int) := by omega
            have hlb : k < b.length := by have := HE.out; omega
            have hlb' : (k : Int) < (b.length : Int) := by omega
            obtain ⟨b1, o1, x, rfl, -, hx, hcx⟩ := (HV.out.keep (SameAt.of_below HW.out)).at_ hlt
            obtain ⟨b2, o2, y, rfl, -, hy, hcy⟩ := (HU.out.keep (SameAt.of_below HW.out)).at_ hlb
            have bx := HGA.out.1 x (List.mem_of_getElem? hx)
            have by' := HGB.out.1 y (List.mem_of_getElem? hy)
            obtain ⟨z, hz⟩ : ∃ z, x - y = z := ⟨_, rfl⟩
            have hw1 : IntKind.i64.wrap (x - y) = z := by rw [hz]; exact IntWalk.i64_in _ (by omega)
            have h3 := sq36 (z := z) (by omega) (by omega)
            obtain ⟨q, hq⟩ : ∃ q, z * z = q := ⟨_, rfl⟩
            have hw2 : IntKind.i64.wrap (z * z) = q := by rw [hq]; exact IntWalk.i64_in _ (by omega)
            obtain ⟨d, hd⟩ : ∃ d, s + q = d := ⟨_, rfl⟩
            have hw3 : IntKind.i64.wrap (s + q) = d := by rw [hd]; exact IntWalk.i64_in _ (by omega)
            rw [at0_of hx, at0_of hy, hz, hq, hd] at hss
            have HD := Lib.hid hss
            clear hss hx hy hz hq hd h3
            go_wp2_with fail
            go_region
            all_goals
              go_wp2_with fail
              go_roundw
              case rel => exact ⟨k + 1, by rw [HD.out], by go_num, by omega, Lib.hid HW.out.drew⟩
              case measure => simp [intOf]; omega
          · obtain rfl : k = a.length := by omega
            have hlt' : decide ((a.length : Int) < (a.length : Int)) = false := by simp
            go_wp2_with fail
            go_ret
            exact ⟨by rw [HR.out, ← HS.out]; rfl, HW.out⟩
      · have HR : Hid (farR a b = -1) := Lib.hid (by rw [farR, if_neg (fun h => he ((twoB_iff a b).1 h).2.2)])
        have hne : ((a.length : Int) != (b.length : Int)) = true := by simp; omega
        clear ht hu he
        go_wp2_with fail
        go_ret
        exact ⟨by rw [HR.out]; rfl, Below.refl _ _⟩

set_option maxHeartbeats 4000000 in
theorem specExpectedScore_any (w : World) (v u : Value) (a b : List Int) (hv : IRd w v a) (hu : IRd w u b) :
    Calls Try.prog 24 #[v, u] w (IntPost (expR a b) w) := by
  obtain ⟨A, c, rfl, hl, hmx, -⟩ := id hv
  obtain ⟨A', c', rfl, hl', hmx', -⟩ := id hu
  have HV := Lib.hid hv
  have HU := Lib.hid hu
  clear hv hu
  go_enter Try.func24, Try.ntmps24
  go_wp2_with fail
  refine (specMeasureOk_any w _ a HV.out).mono ?_
  rintro r w' ⟨rfl, rfl⟩
  obtain ⟨t, ht⟩ : ∃ t, meaB a = t := ⟨_, rfl⟩
  rw [ht]
  cases t
  · have HR : Hid (expR a b = -1) := Lib.hid (by rw [expR, if_neg (by rw [twoB, ht]; simp)])
    clear ht
    go_wp2_with fail
    go_ret
    exact ⟨by rw [HR.out]; rfl, Below.refl _ _⟩
  · go_wp2_with fail
    refine (specMeasureOk_any w _ b HU.out).mono ?_
    rintro r w' ⟨rfl, rfl⟩
    obtain ⟨u, hu⟩ : ∃ u, meaB b = u := ⟨_, rfl⟩
    rw [hu]
    cases u
    · have HR : Hid (expR a b = -1) := Lib.hid (by rw [expR, if_neg (by rw [twoB, ht, hu]; simp)])
      clear ht hu
      go_wp2_with fail
      go_ret
      exact ⟨by rw [HR.out]; rfl, Below.refl _ _⟩
    · by_cases he : a.length = b.length
      · have HR : Hid (expR a b = expI a b) := Lib.hid (by rw [expR, if_pos ((twoB_iff a b).2 ⟨ht, hu, he⟩)])
        have HGA := Lib.hid (grs_of ht)
        have HGB := Lib.hid (grs_of hu)
        have hm4 := (grs_of ht).2
        have hne : ((a.length : Int) != (b.length : Int)) = false := by rw [he]; simp
        have HE := Lib.hid he
        clear ht hu he
        go_wp2_with fail
        go_loopw [5, 6] (fun s i wr => ∃ k : Nat, s = .int .i64 (rsum (fun k => at0 a k * scI b (k : Int)) k) ∧ i = .int .i64 (k : Int) ∧ k ≤ a.length ∧ Hid (Below w.heap.size w wr)) (fun _ i _ => a.length - (intOf i).toNat)
        case atStart => exact ⟨0, rfl, rfl, Nat.zero_le _, Lib.hid (Below.refl _ _)⟩
        case round =>
          obtain ⟨k, rfl, rfl, hk, HW⟩ := hrel
          obtain ⟨s, hs⟩ : ∃ s, rsum (fun k => at0 a k * scI b (k : Int)) k = s := ⟨_, rfl⟩
          have hsb := exp_part HGA.out HGB.out k hk
          have hss := rsum_succ (fun k => at0 a k * scI b (k : Int)) k
          have HS := Lib.hid hs
          simp only [hs] at hsb hss ⊢
          clear hs
          by_cases hlt : k < a.length
          · have hlt' : (k : Int) < (a.length : Int) := by omega
            obtain ⟨b1, o1, x, rfl, -, hx, hcx⟩ := (HV.out.keep (SameAt.of_below HW.out)).at_ hlt
            have bx := HGA.out.1 x (List.mem_of_getElem? hx)
            have by' := sc_bound HGB.out (k : Int)
            obtain ⟨y, hy⟩ : ∃ y, scI b (k : Int) = y := ⟨_, rfl⟩
            have HY := Lib.hid hy
            rw [hy] at by'
            have h3 := mul_near bx by'
            obtain ⟨q, hq⟩ : ∃ q, x * y = q := ⟨_, rfl⟩
            have hw2 : IntKind.i64.wrap (x * y) = q := by rw [hq]; exact IntWalk.i64_in _ (by omega)
            obtain ⟨d, hd⟩ : ∃ d, s + q = d := ⟨_, rfl⟩
            have hw3 : IntKind.i64.wrap (s + q) = d := by rw [hd]; exact IntWalk.i64_in _ (by omega)
            rw [at0_of hx, hy, hq, hd] at hss
            have HD := Lib.hid hss
            clear hss hx hy hq hd h3
            go_wp2_with fail
            have HCX := Lib.hid hcx
            go_region_held3 (fun w' => w'.cell? ⟨b1, o1 + k, none⟩ = some (.int .i64 x)) (exact HCX.out) (first
              | (go_at_call 60; refine (l11Score_any wr.drew _ b (k : Int) (HU.out.keep (SameAt.of_below HW.out.drew)) HGB.out).mono ?_; rintro r w3 ⟨rfl, rfl⟩; rw [HY.out]))
            all_goals
              go_wp2_with fail
              go_roundw
              case rel => exact ⟨k + 1, by rw [HD.out], by go_num, by omega, Lib.hid HW.out.drew⟩
              case measure => simp [intOf]; omega
          · obtain rfl : k = a.length := by omega
            have hlt' : decide ((a.length : Int) < (a.length : Int)) = false := by simp
            go_wp2_with fail
            go_ret
            exact ⟨by rw [HR.out, ← HS.out]; rfl, HW.out⟩
      · have HR : Hid (expR a b = -1) := Lib.hid (by rw [expR, if_neg (fun h => he ((twoB_iff a b).1 h).2.2)])
        have hne : ((a.length : Int) != (b.length : Int)) = true := by simp; omega
        clear ht hu he
        go_wp2_with fail
        go_ret
        exact ⟨by rw [HR.out]; rfl, Below.refl _ _⟩

theorem tot_near {m : List Int} (h : Grs m) (ss : List Int) : 0 ≤ totI m ss ∧ totI m ss ≤ 5184 * (ss.length : Int) := by
  induction ss with
  | nil => simp [totI]
  | cons x ss ih =>
    have := sc_bound h x
    simp only [totI, List.map_cons, List.sum_cons, List.length_cons] at ih ⊢; omega

theorem take_mem11 {ss : List Int} {k : Nat} {x : Int} (hx : ss[k]? = some x) {P : Int → Prop} (h : ∀ y ∈ ss.take k, P y) (hp : P x) : ∀ y ∈ ss.take (k + 1), P y := by
  intro y hy
  rw [List.take_add_one, hx, Option.toList_some, List.mem_append, List.mem_singleton] at hy
  rcases hy with hy | rfl
  · exact h y hy
  · exact hp

set_option maxHeartbeats 4000000 in
theorem specTotalScore_any (w : World) (v u : Value) (m ss : List Int) (hv : IRd w v m) (hu : IRd w u ss) :
    Calls Try.prog 35 #[v, u] w fun r w' => r = .returned (.int .i64 (totR m ss)) ∧ w = w' := by
  obtain ⟨A, c, rfl, hl, hmx, -⟩ := id hv
  obtain ⟨A', c', rfl, hl', hmx', -⟩ := id hu
  have HV := Lib.hid hv
  have HU := Lib.hid hu
  clear hv hu
  go_enter Try.func35, Try.ntmps35
  go_wp2_with fail
  refine (specMeasureOk_any w _ m HV.out).mono ?_
  rintro r w' ⟨rfl, rfl⟩
  obtain ⟨t, ht⟩ : ∃ t, meaB m = t := ⟨_, rfl⟩
  rw [ht]
  cases t
  · have HR : Hid (totR m ss = -1) := Lib.hid (by rw [totR, if_neg (by rw [totB, ht]; simp)])
    clear ht
    go_wp2_with fail
    go_ret
    exact ⟨by rw [HR.out]; rfl, rfl⟩
  · by_cases h12 : 12 < ss.length
    · have HR : Hid (totR m ss = -1) := Lib.hid (by rw [totR, if_neg (fun h => by have := ((totB_iff m ss).1 h).2.1; omega)])
      have h12' : (12 : Int) < (ss.length : Int) := by omega
      clear ht
      go_wp2_with fail
      go_ret
      exact ⟨by rw [HR.out]; rfl, rfl⟩
    · have h12' : decide ((12 : Int) < (ss.length : Int)) = false := by simp; omega
      have hss12 : ss.length ≤ 12 := by omega
      have HT := Lib.hid ht
      have HG := Lib.hid (grs_of ht)
      have hm4 := (grs_of ht).2
      have hw0 : IntKind.i64.wrap ((m.length : Int) - 1) = (m.length : Int) - 1 := IntWalk.i64_in _ (by omega)
      clear ht h12
      go_wp2_with fail
      go_loop [5, 6] (fun s i => ∃ k : Nat, s = .int .i64 (totI m (ss.take k)) ∧ i = .int .i64 (k : Int) ∧ k ≤ ss.length ∧ Hid (∀ x ∈ ss.take k, 0 ≤ x ∧ x < (m.length : Int))) (fun _ i => ss.length - (intOf i).toNat)
      case atStart => exact ⟨0, rfl, rfl, Nat.zero_le _, Lib.hid (fun x hx => by simp at hx)⟩
      case round =>
        obtain ⟨k, rfl, rfl, hk, HA⟩ := hrel
        obtain ⟨s, hs⟩ : ∃ s, totI m (ss.take k) = s := ⟨_, rfl⟩
        have hsb := tot_near HG.out (ss.take k)
        rw [List.length_take] at hsb
        have HS := Lib.hid hs
        rw [hs] at hsb ⊢
        by_cases hlt : k < ss.length
        · have hlt' : (k : Int) < (ss.length : Int) := by omega
          obtain ⟨b1, o1, x, rfl, -, hx, hcx⟩ := HU.out.at_ hlt
          obtain ⟨u, hu⟩ : ∃ u, inB x 0 ((m.length : Int) - 1) = u := ⟨_, rfl⟩
          have HI := Lib.hid hu
          cases u
          · have HR : Hid (totR m ss = -1) := Lib.hid (by
              rw [totR, if_neg (fun h => ?_)]
              have h1 := ((totB_iff m ss).1 h).2.2 x (List.mem_of_getElem? hx)
              have h2 : inB x 0 ((m.length : Int) - 1) = true := (inB_iff _ _ _).2 (by omega)
              rw [hu] at h2; cases h2)
            clear hx hu hs
            go_wp2_with fail
            refine (l1In_any _ _ _ _).mono ?_
            rintro r w' ⟨rfl, rfl⟩
            rw [HI.out]
            go_wp2_with fail
            go_ret
            exact ⟨by rw [HR.out]; rfl, rfl⟩
          · have hin := (inB_iff _ _ _).1 hu
            have HN := Lib.hid (take_mem11 hx HA.out (show 0 ≤ x ∧ x < (m.length : Int) by omega))
            have hst := tot_take (m := m) hx
            have hxb := sc_bound HG.out x
            obtain ⟨y, hy⟩ : ∃ y, scI m x = y := ⟨_, rfl⟩
            have HY := Lib.hid hy
            rw [hy] at hst hxb
            rw [hs] at hst
            obtain ⟨d, hd⟩ : ∃ d, s + y = d := ⟨_, rfl⟩
            have hw3 : IntKind.i64.wrap (s + y) = d := by rw [hd]; exact IntWalk.i64_in _ (by omega)
            rw [hd] at hst
            have HD := Lib.hid hst
            clear hst hx hu hs hy hd hin
            go_wp2_with fail
            refine (l1In_any _ _ _ _).mono ?_
            rintro r w' ⟨rfl, rfl⟩
            rw [HI.out]
            go_wp2_with fail
            refine (l11Score_any _ _ m x HV.out HG.out).mono ?_
            rintro r w' ⟨rfl, rfl⟩
            rw [HY.out]
            go_wp2_with fail
            go_round
            case rel => exact ⟨k + 1, by rw [HD.out], by go_num, by omega, HN⟩
            case measure => simp [intOf]; omega
        · obtain rfl : k = ss.length := by omega
          have hlt' : decide ((ss.length : Int) < (ss.length : Int)) = false := by simp
          have HR : Hid (totR m ss = s) := Lib.hid (by
            have h1 := HA.out
            rw [List.take_length] at h1
            rw [totR, if_pos ((totB_iff m ss).2 ⟨HT.out, hss12, h1⟩), ← hs, List.take_length])
          clear hs
          go_wp2_with fail
          go_ret
          exact ⟨by rw [HR.out]; rfl, rfl⟩

end Go.Proofs.Ytnkgnhnggjoglaa
