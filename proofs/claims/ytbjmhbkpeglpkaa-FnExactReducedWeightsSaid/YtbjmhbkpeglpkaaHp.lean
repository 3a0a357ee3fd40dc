/- The program's contracts of chapter 12: WeightsOk, ReducedWeights, EvidenceOk, LearnedFrom, LearnedAll, BelievedOf. Conditions: rows that read as lists. (gen_hp.py) -/
import Derived.Test.YtbjmhbkpeglpkaaWp
import Derived.Test.YtbjmhbkpeglpkaaHe
namespace Go.Proofs.Ytbjmhbkpeglpkaa
open Go.RowKit
set_option linter.unusedVariables false

/-! facts -/

theorem gcdF_gcn (xs : List Int) (k : Nat) (hk : k ≤ xs.length) : (xs.take k).foldl gcdF 0 = ((gcn (xs.take k) : Nat) : Int) := by
  induction k with
  | zero => simp [gcn]
  | succ k ih =>
    obtain ⟨x, hx⟩ : ∃ x, xs[k]? = some x := ⟨_, List.getElem?_eq_getElem hk⟩
    rw [foldl_take hx, ih (by omega), gcn_take hx, gcdF, Int.toNat_natCast]

theorem gcdL_gcn (xs : List Int) : gcdL xs = ((gcn xs : Nat) : Int) := by
  have := gcdF_gcn xs xs.length (Nat.le_refl _)
  rwa [List.take_length] at this

theorem gcd_le12 {xs : List Int} (h : Wg12 xs) (k : Nat) (hk : k ≤ xs.length) : 0 ≤ (xs.take k).foldl gcdF 0 ∧ (xs.take k).foldl gcdF 0 ≤ 1000000 := by
  induction k with
  | zero => simp
  | succ k ih =>
    obtain ⟨x, hx⟩ : ∃ x, xs[k]? = some x := ⟨_, List.getElem?_eq_getElem hk⟩
    have hb := h.1 x (List.mem_of_getElem? hx)
    have h1 := ih (by omega)
    rw [foldl_take hx]
    generalize (xs.take k).foldl gcdF 0 = g at h1 ⊢
    refine ⟨gcdF_nonneg _ _, ?_⟩
    unfold gcdF
    rcases Nat.eq_zero_or_pos x.toNat with h0 | h0
    · rw [h0, Nat.gcd_zero_right]; omega
    · have := Nat.gcd_le_right g.toNat h0
      omega

theorem only_prod (m : List Int) (e : Int) : onlyL m e = prodL m (bitsL m.length e) := by
  apply List.ext_getElem?
  intro k
  rcases Nat.lt_or_ge k m.length with hk | hk
  · obtain ⟨x, hx⟩ : ∃ x, m[k]? = some x := ⟨_, List.getElem?_eq_getElem hk⟩
    rw [only_at hx, cut_at hx, Int.mul_comm]
  · rw [List.getElem?_eq_none (by rw [only_len]; exact hk), List.getElem?_eq_none (by rw [cut_len]; exact hk)]

theorem only_sum (m : List Int) (e : Int) : (onlyL m e).sum = onI m e := by rw [only_prod, cut_sum]

theorem only_wg12 {m : List Int} (hm : Wg12 m) (e : Int) : Wg12 (onlyL m e) := by
  refine ⟨fun x hx => ?_, by rw [only_len]; exact hm.2⟩
  obtain ⟨k, hk, rfl⟩ := List.mem_map.1 hx
  have hk := List.mem_range.1 hk
  obtain ⟨y, hy⟩ : ∃ y, m[k]? = some y := ⟨_, List.getElem?_eq_getElem hk⟩
  have hb := hm.1 y (List.mem_of_getElem? hy)
  rw [onlyI, getD_at hy]
  rcases bitI_01 e k with h | h <;> rw [h] <;> omega

theorem max_some (xs : List Int) (s : Int) : 0 < xs.foldl maxI s ↔ 0 < s ∨ ∃ x ∈ xs, 0 < x := by
  induction xs generalizing s with
  | nil => simp
  | cons y ys ih =>
    rw [List.foldl_cons, ih]
    have : 0 < maxI s y ↔ 0 < s ∨ 0 < y := by unfold maxI; split <;> omega
    rw [this]
    simp only [List.mem_cons, exists_eq_or_imp]
    exact or_assoc

/-- all in 0..M -/
def upB (xs : List Int) (M : Int) : Bool := xs.all (fun x => inB x 0 M)

theorem up_take {xs : List Int} {M : Int} {k : Nat} {x : Int} (h : xs[k]? = some x) (ih : ∀ y ∈ xs.take k, 0 ≤ y ∧ y ≤ M) (hx : 0 ≤ x ∧ x ≤ M) : ∀ y ∈ xs.take (k + 1), 0 ≤ y ∧ y ≤ M := rng_take h ih hx

theorem up_no {xs : List Int} {M : Int} {k : Nat} {x : Int} (h : xs[k]? = some x) (hx : ¬ (0 ≤ x ∧ x ≤ M)) : upB xs M = false := by
  rw [← Bool.not_eq_true]
  intro h2
  have := List.all_eq_true.1 h2 x (List.mem_of_getElem? h)
  exact hx ((inB_iff _ _ _).1 this)

theorem up_yes {xs : List Int} {M : Int} (h : ∀ y ∈ xs, 0 ≤ y ∧ y ≤ M) : upB xs M = true := List.all_eq_true.2 (fun x hx => (inB_iff _ _ _).2 (h x hx))

theorem up_iff (xs : List Int) (M : Int) : upB xs M = true ↔ ∀ y ∈ xs, 0 ≤ y ∧ y ≤ M := ⟨fun h y hy => (inB_iff _ _ _).1 (List.all_eq_true.1 h y hy), up_yes⟩

theorem wokB_in (n : Int) : wokB n = inB n 1 4 := by
  rw [Bool.eq_iff_iff, wokB_iff, inB_iff]

theorem wgt_parts (xs : List Int) : wgtB xs = (wokB (xs.length : Int) && (upB xs 1000000 && decide (0 < xs.foldl maxI 0))) := by
  rw [Bool.eq_iff_iff, wgtB_iff]
  simp only [Bool.and_eq_true, wokB_iff, up_iff, decide_eq_true_eq, max_some]
  constructor
  · rintro ⟨h1, h2, h3⟩; exact ⟨by omega, h1, .inr h3⟩
  · rintro ⟨h1, h2, h3 | h3⟩
    · omega
    · exact ⟨h2, by omega, h3⟩

theorem evi_parts (W : Int) (xs : List Int) : eviB W xs = (wokB W && (((xs.length : Int) == W) && upB xs 9)) := by
  rw [eviB, wokB_in, upB]
  generalize xs.all (fun x => inB x 0 9) = a
  generalize inB W 1 4 = b
  generalize ((xs.length : Int) == W) = c
  cases a <;> cases b <;> cases c <;> rfl

/-! the program's helpers -/

set_option maxHeartbeats 2000000 in
theorem eachUpTo_any (w : World) (v : Value) (xs : List Int) (M : Int) (hv : IRd w v xs) :
    Calls Try.prog 55 #[v, .int .i64 M] w fun r w' => r = .returned (.bool (upB xs M)) ∧ w = w' := by
  obtain ⟨A, c, rfl, hl, hm, -⟩ := id hv
  have HV := Lib.hid hv
  clear hv
  go_enter Try.func55, Try.ntmps55
  go_wp2_with fail
  go_loop [9] (fun i => ∃ k : Nat, i = .int .i64 k ∧ k ≤ xs.length ∧ Hid (∀ y ∈ xs.take k, 0 ≤ y ∧ y ≤ M)) (fun i => xs.length - (intOf i).toNat)
  case atStart => exact ⟨0, rfl, Nat.zero_le _, Lib.hid (by simp)⟩
  case round =>
    obtain ⟨k, rfl, hk, HE⟩ := hrel
    by_cases hlt : k < xs.length
    · obtain ⟨b, off, x, rfl, -, hx, hcx⟩ := HV.out.at_ hlt
      have HX := Lib.hid hx
      clear hx
      by_cases h0 : x < 0
      · go_wp2_with fail
        go_ret
        exact ⟨ret_bool (up_no HX.out (by omega)).symm, rfl⟩
      · have h0' : 0 ≤ x := by omega
        by_cases h1 : M < x
        · go_wp2_with fail
          go_ret
          exact ⟨ret_bool (up_no HX.out (by omega)).symm, rfl⟩
        · have h1' : x ≤ M := by omega
          go_wp2_with fail
          go_round
          case rel => exact ⟨k + 1, by go_num, by omega, Lib.hid (up_take HX.out HE.out ⟨h0', h1'⟩)⟩
          case measure => simp [intOf]; omega
    · go_wp2_with fail
      go_ret
      exact ⟨ret_bool (by have h := HE.out; rw [List.take_of_length_le (by omega)] at h; exact (up_yes h).symm), rfl⟩

set_option maxHeartbeats 2000000 in
theorem timesRow_any (w : World) (v u : Value) (xs ys : List Int) (hv : IRd w v xs) (hu : IRd w u ys) (hl : ys.length = xs.length) (hx : Wg12 xs) (hy : ∀ y ∈ ys, 0 ≤ y ∧ y ≤ 9) :
    Calls Try.prog 64 #[v, u] w (NewInts (prodL xs ys) w) := by
  obtain ⟨A, c, rfl, hlc, hm, -⟩ := id hv
  obtain ⟨A', c', rfl, hlc', hm', -⟩ := id hu
  have hn4 := hx.2
  have HV := Lib.hid hv
  have HU := Lib.hid hu
  have HL := Lib.hid hl
  have HZ := Lib.hid (prod_len hl)
  have HX := Lib.hid hx
  have HY := Lib.hid hy
  clear hv hu hl hx hy
  obtain ⟨i0, hi, hz0, hz1, hz2⟩ := info_parts Try_intinfo
  go_enter Try.func64, Try.ntmps64
  go_wp2_with (at_make; refine wpList_make_full _ rfl _ _ 23 rfl w.heap.size 3 i0 (.int .i64 0) 1 Try.underlying23 hi hz0 hz1 .i64 .i64 _ _ xs.length rfl rfl rfl rfl ?b2 ?b3 (Nat.le_refl _) ?_)
  case b2 => rw [hz2]; omega
  case b3 => unfold maxLen; omega
  intro w0 hown0 hgrow0
  have H0 : Hid (FillRel w (prodL xs ys) xs.length 0 w0) := Lib.hid ⟨by rw [copied_zero, HZ.out]; simpa [toList_madeCells_one, Value.cells] using hown0, (Below.refl _ _).grown hgrow0 (Nat.le_refl _) (fun k hk => by cases hk)⟩
  clear hown0 hgrow0 hi hz0 hz1 hz2
  go_wp2_with fail
  go_loopw [12] (fun i wr => ∃ k : Nat, i = .int .i64 k ∧ k ≤ xs.length ∧ Hid (FillRel w (prodL xs ys) xs.length k wr)) (fun i _ => xs.length - (intOf i).toNat)
  case atStart => exact ⟨0, rfl, Nat.zero_le _, H0⟩
  case round =>
    obtain ⟨k, rfl, hk, H⟩ := hrel
    clear H0
    by_cases hlt : k < xs.length
    · have hlt' : k < ys.length := by have := HL.out; omega
      obtain ⟨b, off, x, rfl, -, hx, hcx⟩ := (HV.out.keep (SameAt.of_below H.out.2)).at_ hlt
      obtain ⟨b', off', y, rfl, -, hy, hcy⟩ := (HU.out.keep (SameAt.of_below H.out.2)).at_ hlt'
      have hxb := HX.out.1 x (List.mem_of_getElem? hx)
      have hyb := HY.out y (List.mem_of_getElem? hy)
      have hfz := H.out.1.frozenAt k
      obtain ⟨old, hold⟩ := some_cell H.out.1 (k := k) (by omega)
      obtain ⟨z, hz⟩ : ∃ z, x * y = z := ⟨_, rfl⟩
      have hzb : 0 ≤ z ∧ z ≤ 1000000 * 9 := by rw [← hz]; exact ⟨Int.mul_nonneg hxb.1 hyb.1, Int.mul_le_mul hxb.2 hyb.2 hyb.1 (by decide)⟩
      have HS : Hid ((prodL xs ys)[k]? = some z) := Lib.hid (by rw [prod_at hx hy, hz])
      have hw1 : IntKind.i64.wrap (x * y) = z := by rw [hz]; exact IntWalk.i64_in _ (by omega)
      clear hx hy hz hxb hyb
      go_wp2_with fail
      go_region
      all_goals
        go_wp2_with fail
        go_roundw
        case rel => exact ⟨k + 1, by go_num, by omega, (show Hid _ from (H.out.step HS.out).drew1)⟩
        case measure => simp [intOf]; omega
    · go_wp2_with fail
      go_ret
      obtain ⟨h1, h2⟩ := H.out.all HZ.out (by omega)
      exact ⟨_, rfl, h1, h2⟩

/-- the function value that sumRow folds with -/
def addF12 : Value := .func (.func 76) #[] #[]

set_option maxHeartbeats 1000000 in
theorem sumRow1_any (a b : Int) (W : World) (ha : 0 ≤ a ∧ a ≤ 4000000) (hb : 0 ≤ b ∧ b ≤ 1000000) :
    Calls Try.prog 76 #[.int .i64 a, .int .i64 b] W fun r W' => r = .returned (.int .i64 (a + b)) ∧ W = W' := by
  have hw : IntKind.i64.wrap (a + b) = a + b := IntWalk.i64_in _ (by omega)
  go_enter Try.func76, Try.ntmps76
  go_wp2_with fail
  go_ret
  exact ⟨rfl, rfl⟩

set_option maxHeartbeats 1000000 in
theorem foldAdd12_any (w : World) (v : Value) (xs : List Int) (hv : IRd w v xs) (hx : Wg12 xs) :
    Calls Try.prog 56 #[v, .int .i64 0, addF12] w fun r w' => r = .returned (.int .i64 xs.sum) ∧ w = w' := by
  obtain ⟨A, c, rfl, hl, hm, -⟩ := id hv
  have HV := Lib.hid hv
  have HX := Lib.hid hx
  clear hv hx
  unfold addF12
  go_enter Try.func56, Try.ntmps56
  go_wp2_with fail
  go_loop [1, 11] (fun t i => ∃ (k : Nat) (n : Int), i = .int .i64 k ∧ k ≤ xs.length ∧ t = .int .i64 n ∧ Hid (n = (xs.take k).sum)) (fun _ i => xs.length - (intOf i).toNat)
  case atStart => exact ⟨0, 0, rfl, Nat.zero_le _, rfl, Lib.hid (by simp)⟩
  case round =>
    obtain ⟨k, n, rfl, hk, rfl, HN⟩ := hrel
    by_cases hlt : k < xs.length
    · obtain ⟨b, off, x, rfl, -, hx, hcx⟩ := HV.out.at_ hlt
      have hxb := HX.out.1 x (List.mem_of_getElem? hx)
      have hnb := wg12_sum HX.out k
      rw [← HN.out] at hnb
      have HQ := Lib.hid hx
      clear hx
      go_wp2_with fail
      refine (sumRow1_any n x _ hnb hxb).mono ?_
      rintro e w' ⟨rfl, rfl⟩
      obtain ⟨t, ht⟩ : ∃ t, n + x = t := ⟨_, rfl⟩
      have HT := Lib.hid ht
      rw [ht]
      clear ht
      go_wp2_with fail
      go_round
      case rel => exact ⟨k + 1, _, by go_num, by omega, rfl, Lib.hid (by rw [List.take_add_one, HQ.out, Option.toList_some, List.sum_append, ← HN.out, List.sum_singleton, HT.out])⟩
      case measure => simp [intOf]; omega
    · go_wp2_with fail
      go_ret
      exact ⟨ret_int (by rw [HN.out, List.take_of_length_le (by omega)]), rfl⟩

set_option maxHeartbeats 1000000 in
theorem sumRow_any (w : World) (v : Value) (xs : List Int) (hv : IRd w v xs) (hx : Wg12 xs) :
    Calls Try.prog 66 #[v] w fun r w' => r = .returned (.int .i64 xs.sum) ∧ w = w' := by
  have HV := Lib.hid hv
  have HX := Lib.hid hx
  clear hv hx
  go_enter Try.func66, Try.ntmps66
  go_wp2_with fail
  refine (foldAdd12_any w v xs HV.out HX.out).mono ?_
  rintro e w' ⟨rfl, rfl⟩
  go_wp2_with fail
  go_ret
  exact ⟨rfl, rfl⟩

set_option maxRecDepth 100000 in
set_option maxHeartbeats 2000000 in
theorem implCommon12_any (a b : Int) (h1 : 0 ≤ a ∧ a ≤ 4000000) (h2 : 0 ≤ b ∧ b ≤ 4000000) (w : World) :
    Calls Try.prog 75 #[.int .i64 a, .int .i64 b] w (IntPost (gcdF a b) w) := by
  obtain ⟨n, rfl⟩ : ∃ n : Nat, a = n := ⟨a.toNat, by omega⟩
  obtain ⟨d, rfl⟩ : ∃ d : Nat, b = d := ⟨b.toNat, by omega⟩
  have hn : n ≤ 4000000 := by omega
  have hd : d ≤ 4000000 := by omega
  clear h1 h2
  go_enter Try.func75, Try.ntmps75
  go_wp2_with fail
  go_loopw [0, 1] (fun x y wr => ∃ u v : Nat, x = .int .i64 (u : Int) ∧ y = .int .i64 (v : Int) ∧ u ≤ 4000000 ∧ v ≤ 4000000 ∧ Hid (Nat.gcd v u = Nat.gcd d n) ∧ Hid (Below w.heap.size w wr)) (fun _ y _ => (intOf y).toNat)
  case atStart => exact ⟨n, d, rfl, rfl, hn, hd, Lib.hid rfl, Lib.hid (Below.refl _ _)⟩
  case round =>
    obtain ⟨u, v, rfl, rfl, hu, hv, HG, HB⟩ := hrel
    by_cases hv0 : 0 < v
    · have hv1 : (0 : Int) < (v : Int) := by omega
      have hvn : ((v : Int) == 0) = false := by rw [beq_eq_false_iff_ne]; omega
      have hvz : ¬ ((v : Int) = 0) := by omega
      have ht : (u : Int).tmod (v : Int) = ((u % v : Nat) : Int) := by rw [Int.tmod_eq_emod_of_nonneg (by omega)]; rfl
      have hr : u % v < v := Nat.mod_lt _ hv0
      have HG2 := Lib.hid (gc_step HG.out)
      obtain ⟨x, hx⟩ : ∃ x, u % v = x := ⟨_, rfl⟩
      rw [hx] at ht hr HG2
      clear hx
      go_wp2_with fail
      go_region
      all_goals
        go_wp2_with fail
        go_roundw
        case rel => exact ⟨v, x, rfl, rfl, hv, by omega, HG2, Lib.hid HB.out.drew⟩
        case measure => simp [intOf]; omega
    · obtain rfl : v = 0 := by omega
      have HE : Hid (u = Nat.gcd n d) := Lib.hid (by have := HG.out; rw [Nat.gcd_zero_left] at this; rw [this, Nat.gcd_comm])
      clear HG
      go_wp2_with fail
      go_ret
      exact ⟨ret_int (by rw [gcdF, Int.toNat_natCast, Int.toNat_natCast, HE.out]), HB.out⟩

set_option maxRecDepth 100000 in
set_option maxHeartbeats 2000000 in
theorem implTerms12_any (x y g : Int) (h1 : 0 ≤ x ∧ x ≤ 4000000) (h2 : 1 ≤ y ∧ y ≤ 4000000) (hg : gcI x y = g) (w : World) :
    Calls Try.prog 65 #[.int .i64 x, .int .i64 y] w fun r w' => r = .returned (.tuple #[.int .i64 (x / g), .int .i64 (y / g)]) ∧ Below w.heap.size w w' := by
  have hgc : gcdF x y = g := by
    rw [← hg, gcdF, gcI, Nat.max_eq_left]
    exact Nat.gcd_pos_of_pos_right _ (by omega)
  have hg1 : 1 ≤ g := by rw [← hg]; exact gcI_pos x y
  have hgn : (g == 0) = false := by rw [beq_eq_false_iff_ne]; omega
  have hgz : ¬ (g = 0) := by omega
  have hq1 : x.tdiv g = x / g := Int.tdiv_eq_ediv_of_nonneg h1.1
  have hq2 : y.tdiv g = y / g := Int.tdiv_eq_ediv_of_nonneg (by omega)
  have hx1 : 0 ≤ x / g ∧ x / g ≤ 4000000 := ⟨Int.ediv_nonneg h1.1 (by omega), Int.le_trans (Int.ediv_le_self g h1.1) h1.2⟩
  have hy1 : 0 ≤ y / g ∧ y / g ≤ 4000000 := ⟨Int.ediv_nonneg (by omega) (by omega), Int.le_trans (Int.ediv_le_self g (by omega)) h2.2⟩
  have hw1 : wrap64 (x / g) = x / g := IntWalk.wrap64_in _ (by omega)
  have hw2 : wrap64 (y / g) = y / g := IntWalk.wrap64_in _ (by omega)
  have HG := Lib.hid hgc
  have HW := Lib.hid (And.intro hw1 hw2)
  clear hgc hg hx1 hy1
  go_enter Try.func65, Try.ntmps65
  go_wp2_with fail
  refine (implCommon12_any x y ⟨h1.1, by omega⟩ ⟨by omega, by omega⟩ _).mono ?_
  rintro r w1 ⟨rfl, b1⟩
  rw [HG.out]
  have HB := Lib.hid b1
  clear b1
  go_wp2_with fail
  go_region
  all_goals
    go_wp2_with fail
    go_returns
    exact two_ret (by first | rfl | exact HW.out.1) (by first | rfl | exact HW.out.2) HB.out.drew

set_option maxHeartbeats 2000000 in
theorem foldCommon12_any (w : World) (v : Value) (xs : List Int) (hv : IRd w v xs) (hg : Wg12 xs) :
    Calls Try.prog 56 #[v, .int .i64 0, commonF] w (IntPost (gcdL xs) w) := by
  obtain ⟨A, c, rfl, hl, hm, -⟩ := id hv
  have HV := Lib.hid hv
  have HG := Lib.hid hg
  clear hv hg
  unfold commonF
  go_enter Try.func56, Try.ntmps56
  go_wp2_with fail
  go_loopw [1, 11] (fun t i wr => ∃ (k : Nat) (n : Int), i = .int .i64 k ∧ k ≤ xs.length ∧ t = .int .i64 n ∧ Hid (n = (xs.take k).foldl gcdF 0) ∧ Hid (Below w.heap.size w wr)) (fun _ i _ => xs.length - (intOf i).toNat)
  case atStart => exact ⟨0, 0, rfl, Nat.zero_le _, rfl, Lib.hid (by simp), Lib.hid (Below.refl _ _)⟩
  case round =>
    obtain ⟨k, n, rfl, hk, rfl, HN, HB⟩ := hrel
    by_cases hlt : k < xs.length
    · obtain ⟨b, off, x, rfl, -, hx, hcx⟩ := (HV.out.keep (SameAt.of_below HB.out)).at_ hlt
      obtain ⟨x1, x2⟩ := HG.out.1 x (List.mem_of_getElem? hx)
      obtain ⟨n1, n2⟩ : 0 ≤ n ∧ n ≤ 1000000 := by rw [HN.out]; exact gcd_le12 HG.out k (by omega)
      have HX := Lib.hid hx
      clear hx
      go_wp2_with fail
      refine (implCommon12_any n x ⟨n1, by omega⟩ ⟨x1, by omega⟩ _).mono ?_
      rintro r w2 ⟨rfl, b2⟩
      have HB2 := Lib.hid (below_step HB.out b2 HB.out.size)
      clear b2
      go_wp2_with fail
      go_roundw
      case rel => exact ⟨k + 1, _, by go_num, by omega, rfl, Lib.hid (by rw [foldl_take HX.out, ← HN.out]), HB2⟩
      case measure => simp [intOf]; omega
    · go_wp2_with fail
      go_ret
      exact ⟨ret_int (by rw [HN.out, List.take_of_length_le (by omega)]; rfl), HB.out⟩

set_option maxHeartbeats 2000000 in
theorem leastRow12_any (w : World) (v : Value) (xs : List Int) (hv : IRd w v xs) (hgr : wgtB xs = true) :
    Calls Try.prog 59 #[v] w (NewInts (redL xs) w) := by
  obtain ⟨A, c, rfl, hlc, hm, -⟩ := id hv
  have h4 := (wg12_of hgr).2
  obtain ⟨g, hg⟩ : ∃ g : Int, ((gcn xs : Nat) : Int) = g := ⟨_, rfl⟩
  have hg1 : 1 ≤ g := by have := wgt_gcn hgr; omega
  have hgz : ¬ (g = 0) := by omega
  have hred : redL xs = xs.map (fun x => x / g) := by rw [redL, hg]
  rw [hred]
  have HV : Hid (∀ wr, Below w.heap.size w wr → IRd wr (.slice A xs.length c) xs) := Lib.hid (fun wr h => hv.keep (SameAt.of_below h))
  have HG := Lib.hid (wg12_of hgr)
  have HD : Hid (gcdL xs = g) := Lib.hid ((gcdL_gcn xs).trans hg)
  have HZ : Hid ((xs.map (fun x => x / g)).length = xs.length) := Lib.hid (by simp)
  clear hgr hg hred
  obtain ⟨i0, hi, hz0, hz1, hz2⟩ := info_parts Try_intinfo
  go_enter Try.func59, Try.ntmps59
  go_wp2_with fail
  refine (foldCommon12_any _ _ xs (HV.out _ (Below.refl _ _)) HG.out).mono ?_
  rintro r w1 ⟨rfl, b1⟩
  rw [HD.out]
  have HB := Lib.hid b1
  have HVW : Hid (∀ wr, Below w1.heap.size w1 wr → IRd wr (.slice A xs.length c) xs) := Lib.hid (fun wr h => HV.out _ (below_step b1 h b1.size))
  clear b1 HV hv
  go_wp2_with (at_make; refine wpList_make_full _ rfl _ _ 23 rfl w1.heap.size 3 i0 (.int .i64 0) 1 Try.underlying23 hi hz0 hz1 .i64 .i64 _ _ xs.length rfl rfl rfl rfl ?b2 ?b3 (Nat.le_refl _) ?_)
  case b2 => rw [hz2]; omega
  case b3 => unfold maxLen; omega
  intro w0 hown0 hgrow0
  have H0 : Hid (FillRel w1 (xs.map (fun x => x / g)) xs.length 0 w0) := Lib.hid ⟨by rw [copied_zero, HZ.out]; simpa [toList_madeCells_one, Value.cells] using hown0, (Below.refl _ _).grown hgrow0 (Nat.le_refl _) (fun k hk => by cases hk)⟩
  clear hown0 hgrow0 hi hz0 hz1 hz2
  go_wp2_with fail
  go_loopw [14] (fun i wr => ∃ k : Nat, i = .int .i64 k ∧ k ≤ xs.length ∧ Hid (FillRel w1 (xs.map (fun x => x / g)) xs.length k wr)) (fun i _ => xs.length - (intOf i).toNat)
  case atStart => exact ⟨0, rfl, Nat.zero_le _, H0⟩
  case round =>
    obtain ⟨k, rfl, hk, H⟩ := hrel
    clear H0
    by_cases hlt : k < xs.length
    · obtain ⟨b, off, x, rfl, -, hx, hcx⟩ := (HVW.out wr H.out.2).at_ hlt
      obtain ⟨x1, x2⟩ := HG.out.1 x (List.mem_of_getElem? hx)
      have hfz := H.out.1.frozenAt k
      obtain ⟨old, hold⟩ := some_cell H.out.1 (k := k) (by omega)
      have hq : x.tdiv g = x / g := Int.tdiv_eq_ediv_of_nonneg x1
      have hxb : 0 ≤ x / g ∧ x / g ≤ 1000000 := ⟨Int.ediv_nonneg x1 (by omega), Int.le_trans (Int.ediv_le_self g x1) x2⟩
      obtain ⟨y, hy⟩ : ∃ y, x / g = y := ⟨_, rfl⟩
      rw [hy] at hq hxb
      have hwy : wrap64 y = y := IntWalk.wrap64_in _ (by omega)
      have hwy2 : IntKind.i64.wrap y = y := IntWalk.i64_in _ (by omega)
      have HS : Hid ((xs.map (fun x => x / g))[k]? = some y) := Lib.hid (by rw [List.getElem?_map, hx, Option.map_some, hy])
      clear hx hy
      go_wp2_with fail
      go_roundw
      case rel => exact ⟨k + 1, by go_num, by omega, (show Hid _ from H.out.step HS.out)⟩
      case measure => simp [intOf]; omega
    · go_wp2_with fail
      go_ret
      obtain ⟨h1, h2⟩ := H.out.all HZ.out (by omega)
      exact ⟨_, rfl, h1.base HB.out.size, below_step HB.out h2 HB.out.size⟩

/-! the six -/

set_option maxHeartbeats 2000000 in
theorem implWeightsOk_any (w : World) (v : Value) (xs : List Int) (hv : IRd w v xs) :
    Calls Try.prog 17 #[v] w (BoolPost (wgtB xs) w) := by
  obtain ⟨A, c, rfl, hl, hmx, -⟩ := id hv
  have HV := Lib.hid hv
  have HP := Lib.hid (wgt_parts xs)
  clear hv
  obtain ⟨b1, h1⟩ : ∃ b, wokB (xs.length : Int) = b := ⟨_, rfl⟩
  obtain ⟨b2, h2⟩ : ∃ b, upB xs 1000000 = b := ⟨_, rfl⟩
  obtain ⟨n, hn⟩ : ∃ n, xs.foldl maxI 0 = n := ⟨_, rfl⟩
  rw [h1, h2, hn] at HP
  have H1 := Lib.hid h1
  have H2 := Lib.hid h2
  have HN := Lib.hid hn
  clear h1 h2 hn
  cases b1
  · go_enter Try.func17, Try.ntmps17
    go_wp2_with fail
    refine (worldsOk_any _ _).mono ?_
    rintro r w' ⟨rfl, rfl⟩
    rw [H1.out]
    go_wp2_with fail
    go_ret
    exact ⟨ret_bool (by rw [HP.out]; rfl), Below.refl _ _⟩
  · cases b2
    · go_enter Try.func17, Try.ntmps17
      go_wp2_with fail
      refine (worldsOk_any _ _).mono ?_
      rintro r w' ⟨rfl, rfl⟩
      rw [H1.out]
      go_wp2_with fail
      refine (eachUpTo_any _ _ xs 1000000 HV.out).mono ?_
      rintro r w' ⟨rfl, rfl⟩
      rw [H2.out]
      go_wp2_with fail
      go_ret
      exact ⟨ret_bool (by rw [HP.out]; rfl), Below.refl _ _⟩
    · go_enter Try.func17, Try.ntmps17
      go_wp2_with fail
      refine (worldsOk_any _ _).mono ?_
      rintro r w' ⟨rfl, rfl⟩
      rw [H1.out]
      go_wp2_with fail
      refine (eachUpTo_any _ _ xs 1000000 HV.out).mono ?_
      rintro r w' ⟨rfl, rfl⟩
      rw [H2.out]
      go_wp2_with fail
      refine (foldGreater_any _ _ xs 0 HV.out).mono ?_
      rintro r w' ⟨rfl, rfl⟩
      rw [HN.out]
      go_wp2_with fail
      go_ret
      exact ⟨ret_bool (by rw [HP.out]; rfl), Below.refl _ _⟩

set_option maxHeartbeats 2000000 in
theorem implReducedWeights_any (w : World) (v : Value) (xs : List Int) (hv : IRd w v xs) :
    Calls Try.prog 21 #[v] w (NewInts (redR xs) w) := by
  obtain ⟨A, c, rfl, hl, hmx, -⟩ := id hv
  have HV : Hid (∀ wr, Below w.heap.size w wr → IRd wr (.slice A xs.length c) xs) := Lib.hid (fun wr h => hv.keep (SameAt.of_below h))
  clear hv
  rcases Bool.eq_false_or_eq_true (wgtB xs) with h | h
  · have H := Lib.hid h
    have HR : Hid (redR xs = redL xs) := Lib.hid (by rw [redR, if_pos h])
    clear h
    go_enter Try.func21, Try.ntmps21
    go_wp2_with fail
    refine (implWeightsOk_any _ _ xs (HV.out _ (Below.refl _ _))).mono ?_
    rintro r w1 ⟨rfl, b1⟩
    rw [H.out]
    have HB1 := Lib.hid b1
    clear b1
    go_wp2_with fail
    refine (leastRow12_any _ _ xs (HV.out _ HB1.out) H.out).mono ?_
    rintro r w2 ⟨v2, rfl, o2, b2⟩
    have O2 := Lib.hid o2
    have HB2 := Lib.hid b2
    clear o2 b2
    go_wp2_with fail
    go_ret
    exact ⟨_, rfl, by rw [HR.out]; exact O2.out.base HB1.out.size, below_step HB1.out HB2.out HB1.out.size⟩
  · have H := Lib.hid h
    have HR : Hid (redR xs = []) := Lib.hid (by rw [redR, h]; rfl)
    clear h
    go_enter Try.func21, Try.ntmps21
    go_wp2_with fail
    refine (implWeightsOk_any _ _ xs (HV.out _ (Below.refl _ _))).mono ?_
    rintro r w1 ⟨rfl, b1⟩
    rw [H.out]
    have HB1 := Lib.hid b1
    clear b1
    go_wp2_with fail
    go_ret
    exact ⟨_, rfl, by rw [HR.out]; exact nil_own _ _, HB1.out⟩

set_option maxHeartbeats 2000000 in
theorem implEvidenceOk_any (w : World) (W : Int) (v : Value) (xs : List Int) (hv : IRd w v xs) :
    Calls Try.prog 26 #[.int .i64 W, v] w (BoolPost (eviB W xs) w) := by
  obtain ⟨A, c, rfl, hl, hmx, -⟩ := id hv
  have HV := Lib.hid hv
  have HP := Lib.hid (evi_parts W xs)
  clear hv
  obtain ⟨b1, h1⟩ : ∃ b, wokB W = b := ⟨_, rfl⟩
  obtain ⟨b2, h2⟩ : ∃ b, upB xs 9 = b := ⟨_, rfl⟩
  rw [h1, h2] at HP
  have H1 := Lib.hid h1
  have H2 := Lib.hid h2
  clear h1 h2
  cases b1
  · go_enter Try.func26, Try.ntmps26
    go_wp2_with fail
    refine (worldsOk_any _ _).mono ?_
    rintro r w' ⟨rfl, rfl⟩
    rw [H1.out]
    go_wp2_with fail
    go_ret
    exact ⟨ret_bool (by rw [HP.out]; rfl), Below.refl _ _⟩
  · obtain ⟨t, ht⟩ : ∃ t, ((xs.length : Int) == W) = t := ⟨_, rfl⟩
    rw [ht] at HP
    cases t
    · go_enter Try.func26, Try.ntmps26
      go_wp2_with fail
      refine (worldsOk_any _ _).mono ?_
      rintro r w' ⟨rfl, rfl⟩
      rw [H1.out]
      go_wp2_with fail
      go_ret
      exact ⟨ret_bool (by rw [HP.out]; rfl), Below.refl _ _⟩
    · go_enter Try.func26, Try.ntmps26
      go_wp2_with fail
      refine (worldsOk_any _ _).mono ?_
      rintro r w' ⟨rfl, rfl⟩
      rw [H1.out]
      go_wp2_with fail
      refine (eachUpTo_any _ _ xs 9 HV.out).mono ?_
      rintro r w' ⟨rfl, rfl⟩
      rw [H2.out]
      go_wp2_with fail
      go_ret
      exact ⟨ret_bool (by rw [HP.out]; rfl), Below.refl _ _⟩

set_option maxHeartbeats 4000000 in
theorem implLearnedFrom_any (w : World) (v u : Value) (xs rs : List Int) (hv : IRd w v xs) (hu : IRd w u rs) :
    Calls Try.prog 29 #[v, u] w (RowOk w.heap.size (lrnR xs rs) (lrnB xs rs) w) := by
  obtain ⟨A, c, rfl, hl, hmx, -⟩ := id hv
  obtain ⟨A', c', rfl, hl', hmx', -⟩ := id hu
  have HV : Hid (∀ wr, Below w.heap.size w wr → IRd wr (.slice A xs.length c) xs) := Lib.hid (fun wr hb => hv.keep (SameAt.of_below hb))
  have HU : Hid (∀ wr, Below w.heap.size w wr → IRd wr (.slice A' rs.length c') rs) := Lib.hid (fun wr hb => hu.keep (SameAt.of_below hb))
  clear hv hu
  have START : True := trivial
  rcases Bool.eq_false_or_eq_true (wgtB xs) with h | h
  · have H1 := Lib.hid h
    rcases Bool.eq_false_or_eq_true (eviB (xs.length : Int) rs) with h2 | h2
    · have H2 := Lib.hid h2
      have HLR : Hid (rs.length = xs.length) := Lib.hid (by have := ((eviB_iff _ rs).1 h2).2.2; omega)
      have HW := Lib.hid (wg12_of h)
      have HE := Lib.hid ((eviB_iff _ rs).1 h2).1
      have HPB : Hid (lrnB xs rs = wgtB (prodL xs rs)) := Lib.hid (by rw [lrnB, h, h2, Bool.true_and, Bool.true_and])
      obtain ⟨t, ht⟩ : ∃ t, wgtB (prodL xs rs) = t := ⟨_, rfl⟩
      have HT := Lib.hid ht
      rw [ht] at HPB
      clear ht h h2
      cases t
      · have HR := Lib.hid (lrn_no HPB.out)
        go_enter Try.func29, Try.ntmps29
        go_wp2_with fail
        refine (implWeightsOk_any _ _ xs (HV.out _ (Below.refl _ _))).mono ?_
        rintro r w1 ⟨rfl, b1⟩
        rw [H1.out]
        have HB1 := Lib.hid b1
        clear b1
        go_wp2_with fail
        refine (implEvidenceOk_any _ _ _ rs (HU.out _ HB1.out)).mono ?_
        rintro r w2 ⟨rfl, b2⟩
        rw [H2.out]
        have HB2 := Lib.hid (below_step HB1.out b2 HB1.out.size)
        clear b2
        go_wp2_with fail
        refine (timesRow_any _ _ _ xs rs (HV.out _ HB2.out) (HU.out _ HB2.out) HLR.out HW.out HE.out).mono ?_
        rintro r w3 ⟨v3, rfl, o3, b3⟩
        have O3 := Lib.hid o3
        have HB3 := Lib.hid (below_step HB2.out b3 HB2.out.size)
        clear o3 b3
        go_wp2_with fail
        refine (implWeightsOk_any _ _ _ O3.out.rd).mono ?_
        rintro r w4 ⟨rfl, b4⟩
        rw [HT.out]
        have HB4 := Lib.hid (below_step HB3.out b4 HB3.out.size)
        clear b4
        go_wp2_with fail
        go_ret2
        exact rowOk_ret HPB.out HR.out (nil_own _ _) HB4.out
      · have HR : Hid (lrnR xs rs = redL (prodL xs rs)) := Lib.hid (by rw [lrnR, if_pos HPB.out])
        go_enter Try.func29, Try.ntmps29
        go_wp2_with fail
        refine (implWeightsOk_any _ _ xs (HV.out _ (Below.refl _ _))).mono ?_
        rintro r w1 ⟨rfl, b1⟩
        rw [H1.out]
        have HB1 := Lib.hid b1
        clear b1
        go_wp2_with fail
        refine (implEvidenceOk_any _ _ _ rs (HU.out _ HB1.out)).mono ?_
        rintro r w2 ⟨rfl, b2⟩
        rw [H2.out]
        have HB2 := Lib.hid (below_step HB1.out b2 HB1.out.size)
        clear b2
        go_wp2_with fail
        refine (timesRow_any _ _ _ xs rs (HV.out _ HB2.out) (HU.out _ HB2.out) HLR.out HW.out HE.out).mono ?_
        rintro r w3 ⟨v3, rfl, o3, b3⟩
        have O3 := Lib.hid o3
        have HB3 := Lib.hid (below_step HB2.out b3 HB2.out.size)
        clear o3 b3
        go_wp2_with fail
        refine (implWeightsOk_any _ _ _ O3.out.rd).mono ?_
        rintro r w4 ⟨rfl, b4⟩
        rw [HT.out]
        have HB4 := Lib.hid (below_step HB3.out b4 HB3.out.size)
        have O4 := Lib.hid (O3.out.rd.keep (SameAt.of_below b4))
        clear b4
        go_wp2_with fail
        refine (leastRow12_any _ _ _ O4.out HT.out).mono ?_
        rintro r w5 ⟨v5, rfl, o5, b5⟩
        have O5 := Lib.hid o5
        have HB5 := Lib.hid (below_step HB4.out b5 HB4.out.size)
        clear o5 b5
        go_wp2_with fail
        go_ret2
        exact rowOk_ret HPB.out HR.out (O5.out.base HB4.out.size) HB5.out
    · have H2 := Lib.hid h2
      have HN : Hid (lrnB xs rs = false) := Lib.hid (by rw [lrnB, h, h2]; rfl)
      have HR := Lib.hid (lrn_no HN.out)
      clear h h2
      go_enter Try.func29, Try.ntmps29
      go_wp2_with fail
      refine (implWeightsOk_any _ _ xs (HV.out _ (Below.refl _ _))).mono ?_
      rintro r w1 ⟨rfl, b1⟩
      rw [H1.out]
      have HB1 := Lib.hid b1
      clear b1
      go_wp2_with fail
      refine (implEvidenceOk_any _ _ _ rs (HU.out _ HB1.out)).mono ?_
      rintro r w2 ⟨rfl, b2⟩
      rw [H2.out]
      have HB2 := Lib.hid (below_step HB1.out b2 HB1.out.size)
      clear b2
      go_wp2_with fail
      go_ret2
      exact rowOk_ret HN.out HR.out (nil_own _ _) HB2.out
  · have H1 := Lib.hid h
    have HN : Hid (lrnB xs rs = false) := Lib.hid (by rw [lrnB, h]; rfl)
    have HR := Lib.hid (lrn_no HN.out)
    clear h
    go_enter Try.func29, Try.ntmps29
    go_wp2_with fail
    refine (implWeightsOk_any _ _ xs (HV.out _ (Below.refl _ _))).mono ?_
    rintro r w1 ⟨rfl, b1⟩
    rw [H1.out]
    have HB1 := Lib.hid b1
    clear b1
    go_wp2_with fail
    go_ret2
    exact rowOk_ret HN.out HR.out (nil_own _ _) HB1.out

set_option maxRecDepth 100000 in
set_option maxHeartbeats 8000000 in
theorem implLearnedAll_any (w : World) (v u : Value) (xs : List Int) (rows : List (List Int)) (hv : IRd w v xs) (hu : SRd w u rows) :
    Calls Try.prog 32 #[v, u] w (RowOk w.heap.size (laR xs rows) (laB xs rows) w) := by
  obtain ⟨A, c, rfl, hl, hmx, -⟩ := id hv
  obtain ⟨A', c', rfl, hl', hm'⟩ := hu.form
  have HV : Hid (∀ wr, Below w.heap.size w wr → IRd wr (.slice A xs.length c) xs) := Lib.hid (fun wr hb => hv.keep (SameAt.of_below hb))
  have HU : Hid (∀ wr, Below w.heap.size w wr → SRd wr (.slice A' rows.length c') rows) := Lib.hid (fun wr hb => hu.below hb)
  clear hv hu
  rcases Bool.eq_false_or_eq_true (wgtB xs) with h | h
  · have HW := Lib.hid h
    clear h
    rcases Bool.eq_false_or_eq_true (upB xs 100) with h1 | h1
    · have HU1 := Lib.hid h1
      have H100 : Hid (∀ y ∈ xs, y ≤ 100) := Lib.hid (fun y hy => ((up_iff xs 100).1 h1 y hy).2)
      clear h1
      by_cases h4 : rows.length ≤ 4
      · have h4' : (rows.length : Int) ≤ 4 := by omega
        have HWW : Hid ((∀ y ∈ xs, 0 ≤ y ∧ y ≤ 100) ∧ (1 ≤ xs.length ∧ xs.length ≤ 4) ∧ ∃ x ∈ xs, 0 < x) := Lib.hid (by
          obtain ⟨k1, k2, k3⟩ := (wgtB_iff xs).1 HW.out
          exact ⟨fun y hy => ⟨(k1 y hy).1, H100.out y hy⟩, k2, k3⟩)
        go_enter Try.func32, Try.ntmps32
        go_wp2_with fail
        refine (implWeightsOk_any _ _ xs (HV.out _ (Below.refl _ _))).mono ?_
        rintro r w1 ⟨rfl, b1⟩
        rw [HW.out]
        have HB1 := Lib.hid b1
        clear b1
        go_wp2_with fail
        refine (eachUpTo_any _ _ xs 100 (HV.out _ HB1.out)).mono ?_
        rintro r w' ⟨rfl, rfl⟩
        rw [HU1.out]
        go_wp2_with fail
        refine (leastRow12_any _ _ xs (HV.out _ HB1.out) HW.out).mono ?_
        rintro r w2 ⟨vo, rfl, oo, bo⟩
        have HO : Hid (IOwn w2 w.heap.size vo (redL (prodAll xs (rows.take 0))) ∧ Below w.heap.size w w2) := Lib.hid ⟨by rw [List.take_zero]; show IOwn w2 w.heap.size vo (redL xs); exact oo.base HB1.out.size, below_step HB1.out bo HB1.out.size⟩
        clear oo bo
        go_wp2_with fail
        go_loopw [6, 28] (fun p i wr => ∃ k : Nat, i = .int .i64 (k : Int) ∧ k ≤ rows.length ∧ Hid (∀ r ∈ rows.take k, eviB (xs.length : Int) r = true) ∧ Hid (∃ x ∈ prodAll xs (rows.take k), 0 < x) ∧ Hid (IOwn wr w.heap.size p (redL (prodAll xs (rows.take k))) ∧ Below w.heap.size w wr)) (fun _ i _ => rows.length - (intOf i).toNat)
        case atStart => exact ⟨0, rfl, Nat.zero_le _, Lib.hid (by simp), Lib.hid (by rw [List.take_zero]; exact HWW.out.2.2), HO⟩
        case round =>
          obtain ⟨k, rfl, hk2, HE, HS, HF⟩ := hrel
          clear HO
          by_cases hlt2 : k < rows.length
          · have hlt2' : (k : Int) < (rows.length : Int) := by omega
            obtain ⟨b, off, p, r, rfl, -, hr, hc, hp⟩ := (HU.out wr HF.out.2).at_ hlt2
            obtain ⟨A2, c2, rfl, -, -, -⟩ := id hp
            have HR0 := Lib.hid hr
            have HP := Lib.hid hp
            clear hr hp
            rcases Bool.eq_false_or_eq_true (lrnB (redL (prodAll xs (rows.take k))) r) with h1 | h1
            · obtain ⟨k1, k2, k3⟩ := la_ok HWW.out.1 HWW.out.2.1 h4 HR0.out HE.out HS.out h1
              have HE2 := Lib.hid k1
              have HS2 := Lib.hid k2
              have HK3 := Lib.hid k3
              have H1 := Lib.hid h1
              clear k1 k2 k3 h1
              go_wp2_with fail
              refine (implLearnedFrom_any wr _ _ _ r HF.out.1.rd HP.out).mono ?_
              rintro q w3 ⟨vn, rfl, on, bn⟩
              rw [H1.out]
              have HF3 : Hid (IOwn w3 w.heap.size vn (redL (prodAll xs (rows.take (k + 1)))) ∧ Below w.heap.size w w3) := Lib.hid ⟨by rw [← HK3.out]; exact on.base HF.out.2.size, below_step HF.out.2 bn HF.out.2.size⟩
              clear on bn HF
              go_wp2_with fail
              go_roundw
              case rel => exact ⟨k + 1, by go_num, by omega, HE2, HS2, HF3⟩
              case measure => simp [intOf]; omega
            · have HT := Lib.hid (la_bad HR0.out HS.out h1)
              have HR := Lib.hid (la_no HT.out)
              have H1 := Lib.hid h1
              clear h1
              go_wp2_with fail
              refine (implLearnedFrom_any wr _ _ _ r HF.out.1.rd HP.out).mono ?_
              rintro q w3 ⟨vn, rfl, on, bn⟩
              rw [H1.out]
              have HB3 := Lib.hid (below_step HF.out.2 bn HF.out.2.size)
              clear on bn
              go_wp2_with fail
              go_ret2
              exact rowOk_ret HT.out HR.out (nil_own _ _) HB3.out
          · obtain rfl : k = rows.length := by omega
            have hlt3 : decide ((rows.length : Int) < (rows.length : Int)) = false := by simp
            have HEND := Lib.hid (la_end (w := xs) (rows := rows) HW.out H100.out h4 (by have := HE.out; rwa [List.take_length] at this) (by have := HS.out; rwa [List.take_length] at this))
            have HO2 := Lib.hid HF.out
            rw [List.take_length] at HO2
            go_wp2_with fail
            go_ret2
            exact rowOk_ret HEND.out.1 HEND.out.2 HO2.out.1 HO2.out.2
      · have h4' : (4 : Int) < (rows.length : Int) := by omega
        have HT : Hid (laB xs rows = false) := Lib.hid (by
          rw [← Bool.not_eq_true, laB_iff]
          rintro ⟨-, -, hh, -⟩
          exact h4 hh)
        have HR := Lib.hid (la_no HT.out)
        go_enter Try.func32, Try.ntmps32
        go_wp2_with fail
        refine (implWeightsOk_any _ _ xs (HV.out _ (Below.refl _ _))).mono ?_
        rintro r w1 ⟨rfl, b1⟩
        rw [HW.out]
        have HB1 := Lib.hid b1
        clear b1
        go_wp2_with fail
        refine (eachUpTo_any _ _ xs 100 (HV.out _ HB1.out)).mono ?_
        rintro r w' ⟨rfl, rfl⟩
        rw [HU1.out]
        go_wp2_with fail
        go_ret2
        exact rowOk_ret HT.out HR.out (nil_own _ _) HB1.out
    · have HU1 := Lib.hid h1
      have HT : Hid (laB xs rows = false) := Lib.hid (by
        rw [← Bool.not_eq_true, laB_iff]
        rintro ⟨hh0, hh, -⟩
        have : upB xs 100 = true := up_yes (fun y hy => ⟨(((wgtB_iff xs).1 hh0).1 y hy).1, hh y hy⟩)
        rw [h1] at this; cases this)
      have HR := Lib.hid (la_no HT.out)
      clear h1
      go_enter Try.func32, Try.ntmps32
      go_wp2_with fail
      refine (implWeightsOk_any _ _ xs (HV.out _ (Below.refl _ _))).mono ?_
      rintro r w1 ⟨rfl, b1⟩
      rw [HW.out]
      have HB1 := Lib.hid b1
      clear b1
      go_wp2_with fail
      refine (eachUpTo_any _ _ xs 100 (HV.out _ HB1.out)).mono ?_
      rintro r w' ⟨rfl, rfl⟩
      rw [HU1.out]
      go_wp2_with fail
      go_ret2
      exact rowOk_ret HT.out HR.out (nil_own _ _) HB1.out
  · have H1 := Lib.hid h
    have HT : Hid (laB xs rows = false) := Lib.hid (by rw [laB, h]; rfl)
    have HR := Lib.hid (la_no HT.out)
    clear h
    go_enter Try.func32, Try.ntmps32
    go_wp2_with fail
    refine (implWeightsOk_any _ _ xs (HV.out _ (Below.refl _ _))).mono ?_
    rintro r w1 ⟨rfl, b1⟩
    rw [H1.out]
    have HB1 := Lib.hid b1
    clear b1
    go_wp2_with fail
    go_ret2
    exact rowOk_ret HT.out HR.out (nil_own _ _) HB1.out

set_option maxRecDepth 100000 in
set_option maxHeartbeats 4000000 in
theorem implBelievedOf_any (w : World) (v : Value) (xs : List Int) (e : Int) (hv : IRd w v xs) :
    Calls Try.prog 35 #[v, .int .i64 e] w (FracPost (belN xs e) (belD xs e) (belB xs e) w) := by
  obtain ⟨A, c, rfl, hl, hmx, -⟩ := id hv
  have HV : Hid (∀ wr, Below w.heap.size w wr → IRd wr (.slice A xs.length c) xs) := Lib.hid (fun wr hb => hv.keep (SameAt.of_below hb))
  clear hv
  rcases Bool.eq_false_or_eq_true (wgtB xs) with h | h
  · have H1 := Lib.hid h
    rcases Bool.eq_false_or_eq_true (evB (xs.length : Int) e) with h2 | h2
    · have H2 := Lib.hid h2
      have hT : belB xs e = true := (belB_iff xs e).2 ⟨h, h2⟩
      have HT := Lib.hid hT
      have HG := Lib.hid (wg12_of h)
      have hl4 := (wg12_of h).2
      have HL4 := Lib.hid hl4
      obtain ⟨e1, e2⟩ := evB_15 h2
      have hxb := wgt_on h e
      have hyb := wgt_sum h
      obtain ⟨x, hx⟩ : ∃ x, onI xs e = x := ⟨_, rfl⟩
      obtain ⟨y, hy⟩ : ∃ y, xs.sum = y := ⟨_, rfl⟩
      rw [hx, hy] at hxb
      rw [hy] at hyb
      obtain ⟨g, hg⟩ : ∃ g, gcI x y = g := ⟨_, rfl⟩
      have HGV : Hid (belN xs e = x / g ∧ belD xs e = y / g) := Lib.hid ⟨by rw [belN, if_pos hT, hx, hy, hg], by rw [belD, if_pos hT, hx, hy, hg]⟩
      have HX : Hid ((onlyL xs e).sum = x) := Lib.hid ((only_sum xs e).trans hx)
      have HY := Lib.hid hy
      have HGC := Lib.hid hg
      have HXB : Hid (0 ≤ x ∧ x ≤ 4000000) := Lib.hid ⟨hxb.1, by omega⟩
      have HYB := Lib.hid hyb
      clear hx hy hg hT h h2 hxb hyb
      go_enter Try.func35, Try.ntmps35
      go_wp2_with fail
      refine (implWeightsOk_any _ _ xs (HV.out _ (Below.refl _ _))).mono ?_
      rintro r w1 ⟨rfl, b1⟩
      rw [H1.out]
      have HB1 := Lib.hid b1
      clear b1
      go_wp2_with fail
      refine (implEventOk_any _ _ _).mono ?_
      rintro r w' ⟨rfl, rfl⟩
      rw [H2.out]
      go_wp2_with fail
      refine (implOnlyIn_any _ _ xs e (HV.out _ HB1.out) HL4.out e1 e2).mono ?_
      rintro r w2 ⟨v2, rfl, o2, b2⟩
      have O2 := Lib.hid o2
      have HB2 := Lib.hid (below_step HB1.out b2 HB1.out.size)
      clear o2 b2
      go_wp2_with fail
      refine (sumRow_any _ _ _ O2.out.rd (only_wg12 HG.out e)).mono ?_
      rintro r w' ⟨rfl, rfl⟩
      rw [HX.out]
      go_wp2_with fail
      refine (sumRow_any _ _ xs (HV.out _ HB2.out) HG.out).mono ?_
      rintro r w' ⟨rfl, rfl⟩
      rw [HY.out]
      go_wp2_with fail
      refine (implTerms12_any x y g HXB.out HYB.out HGC.out _).mono ?_
      rintro r w3 ⟨rfl, b3⟩
      have HB3 := Lib.hid (below_step HB2.out b3 HB2.out.size)
      clear b3
      go_wp2_with fail
      go_returns
      exact frac_ret HGV.out.1 HGV.out.2 HT.out HB3.out
    · have H2 := Lib.hid h2
      have HN : Hid (belB xs e = false) := Lib.hid (by rw [belB, h, h2]; rfl)
      clear h h2
      go_enter Try.func35, Try.ntmps35
      go_wp2_with fail
      refine (implWeightsOk_any _ _ xs (HV.out _ (Below.refl _ _))).mono ?_
      rintro r w1 ⟨rfl, b1⟩
      rw [H1.out]
      have HB1 := Lib.hid b1
      clear b1
      go_wp2_with fail
      refine (implEventOk_any _ _ _).mono ?_
      rintro r w' ⟨rfl, rfl⟩
      rw [H2.out]
      go_wp2_with fail
      go_returns
      exact frac_ret (bel_no HN.out).1 (bel_no HN.out).2 HN.out HB1.out
  · have H1 := Lib.hid h
    have HN : Hid (belB xs e = false) := Lib.hid (by rw [belB, h]; rfl)
    clear h
    go_enter Try.func35, Try.ntmps35
    go_wp2_with fail
    refine (implWeightsOk_any _ _ xs (HV.out _ (Below.refl _ _))).mono ?_
    rintro r w1 ⟨rfl, b1⟩
    rw [H1.out]
    have HB1 := Lib.hid b1
    clear b1
    go_wp2_with fail
    go_returns
    exact frac_ret (bel_no HN.out).1 (bel_no HN.out).2 HN.out HB1.out

end Go.Proofs.Ytbjmhbkpeglpkaa
