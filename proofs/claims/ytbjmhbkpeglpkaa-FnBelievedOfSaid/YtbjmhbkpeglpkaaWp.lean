/- Contracts of the program's givenOk, onlyIn, commonDivisor, leastTerms, leastRow, GivenBy, CalledGain, FitsCalled, AfterEvent. Conditions: rows that read as lists. -/
import Derived.Test.YtbjmhbkpeglpkaaWk
import Derived.Test.YtbjmhbkpeglpkaaNc
namespace Go.Proofs.Ytbjmhbkpeglpkaa
open Go.RowKit
set_option linter.unusedVariables false

/-! what stands in the worlds of an event alone -/

def onlyI (m : List Int) (e : Int) (k : Nat) : Int := bitI e k * m.getD k 0

def onlyL (m : List Int) (e : Int) : List Int := (List.range m.length).map (onlyI m e)

theorem only_len (m : List Int) (e : Int) : (onlyL m e).length = m.length := by simp [onlyL]

theorem only_at {m : List Int} {e : Int} {k : Nat} {x : Int} (h : m[k]? = some x) : (onlyL m e)[k]? = some (bitI e k * x) := by
  have hk : k < m.length := by
    rcases Nat.lt_or_ge k m.length with h1 | h1
    · exact h1
    · rw [List.getElem?_eq_none h1] at h; cases h
  rw [onlyL, List.getElem?_map, List.getElem?_range hk, Option.map_some, onlyI, getD_at h]

theorem only_gain {n a b p : Int} : onlyL (gainL n (a, p) 1) b = calL n a b p := by
  unfold onlyL calL
  rw [gainL_len]
  apply List.map_congr_left
  intro k hk
  have hk := List.mem_range.1 hk
  show bitI b k * _ = bitI b k * (bitI a k * 6 - p)
  rw [getD_at (gainL_at n (a, p) 1 hk)]
  show bitI b k * (1 * (bitI a k * 6 - p)) = _
  rw [Int.one_mul]

def gcdF (g x : Int) : Int := ((Nat.gcd g.toNat x.toNat : Nat) : Int)

def gcdL (xs : List Int) : Int := xs.foldl gcdF 0

theorem gcdF_nonneg (g x : Int) : 0 ≤ gcdF g x := by unfold gcdF; omega

theorem gcd_only {m : List Int} {e : Int} (k : Nat) (hk : k ≤ m.length) : ((onlyL m e).take k).foldl gcdF 0 = ((divG m e k : Nat) : Int) := by
  induction k with
  | zero => simp [divG]
  | succ k ih =>
    obtain ⟨x, hx⟩ : ∃ x, m[k]? = some x := ⟨_, List.getElem?_eq_getElem hk⟩
    rw [foldl_take (only_at hx), ih (by omega), divG, getD_at hx, gcdF, Int.toNat_natCast]

theorem gcdL_only (m : List Int) (e : Int) : gcdL (onlyL m e) = ((divG m e m.length : Nat) : Int) := by
  have := gcd_only (m := m) (e := e) m.length (Nat.le_refl _)
  rwa [List.take_of_length_le (by rw [only_len]; exact Nat.le_refl _)] at this

theorem on_none {m : List Int} {e : Int} (hm : ∀ x ∈ m, 0 ≤ x) (h : divG m e m.length = 0) : onI m e = 0 := by
  have hz : ∀ j, j < m.length → bitI e j * m.getD j 0 = 0 := by
    intro j hj
    obtain ⟨h1, -, h3⟩ := aft_scale hm e hj
    have h4 := divG_dvd m e m.length j hj
    rw [h, Nat.zero_dvd] at h4
    omega
  have hk : ∀ k, k ≤ m.length → onI (m.take k) e = 0 := by
    intro k
    induction k with
    | zero => intro _; simp [onI]
    | succ k ih =>
      intro hk
      obtain ⟨x, hx⟩ : ∃ x, m[k]? = some x := ⟨_, List.getElem?_eq_getElem hk⟩
      have := hz k (by omega)
      rw [getD_at hx] at this
      rw [onI_take hx, ih (by omega), this]; rfl
  have := hk m.length (Nat.le_refl _)
  rwa [List.take_length] at this

theorem aft_of_only {m : List Int} {e : Int} (h : aftB m e = true) : 1 ≤ gcdL (onlyL m e) ∧ (onlyL m e).map (fun x => x / gcdL (onlyL m e)) = aftL m e := by
  obtain ⟨h1, h2, h3⟩ := (aftB_iff m e).1 h
  have hp : 0 < divG m e m.length := by
    rcases Nat.eq_zero_or_pos (divG m e m.length) with hz | hz
    · exact absurd (on_none (fun x hx => ((grs_of h1).1 x hx).1) hz) h3
    · exact hz
  rw [gcdL_only]
  refine ⟨by omega, ?_⟩
  unfold onlyL aftL
  rw [List.map_map]
  apply List.map_congr_left
  intro k hk
  show bitI e k * m.getD k 0 / _ = aftI m e k
  rw [aftI, divI, Nat.max_eq_left hp]

theorem only_grs {m : List Int} (hm : Grs m) (e : Int) : Grs (onlyL m e) := by
  refine ⟨fun x hx => ?_, by rw [only_len]; exact hm.2⟩
  obtain ⟨k, hk, rfl⟩ := List.mem_map.1 hx
  have hk := List.mem_range.1 hk
  obtain ⟨y, hy⟩ : ∃ y, m[k]? = some y := ⟨_, List.getElem?_eq_getElem hk⟩
  have hb := hm.1 y (List.mem_of_getElem? hy)
  rw [onlyI, getD_at hy]
  rcases bitI_01 e k with h | h <;> rw [h] <;> omega

theorem copied_skip {xs : List Int} {k : Nat} (h : xs[k]? = some 0) : copied xs k = copied xs (k + 1) := by
  have hk : k < xs.length := by
    rcases Nat.lt_or_ge k xs.length with h1 | h1
    · exact h1
    · rw [List.getElem?_eq_none h1] at h; cases h
  have hx : xs[k] = 0 := by rw [List.getElem?_eq_getElem hk] at h; exact Option.some.inj h
  unfold copied
  obtain ⟨m, hm⟩ : ∃ m, xs.length - k = m + 1 := ⟨xs.length - k - 1, by omega⟩
  rw [hm, show xs.length - (k + 1) = m from by omega, List.replicate_succ, List.take_succ_eq_append_getElem hk, List.map_append, hx]
  simp

theorem FillRel.skip {w wr : World} {zs : List Int} {n k : Nat} (h : FillRel w zs n k wr) (hx : zs[k]? = some 0) : FillRel w zs n (k + 1) wr := ⟨by rw [← copied_skip hx]; exact h.1, h.2⟩

theorem gcd_le36 {xs : List Int} (h : Grs xs) (k : Nat) (hk : k ≤ xs.length) : 0 ≤ (xs.take k).foldl gcdF 0 ∧ (xs.take k).foldl gcdF 0 ≤ 36 := by
  induction k with
  | zero => simp
  | succ k ih =>
    obtain ⟨x, hx⟩ : ∃ x, xs[k]? = some x := ⟨_, List.getElem?_eq_getElem hk⟩
    have hb := h.1 x (List.mem_of_getElem? hx)
    have h1 := ih (by omega)
    rw [foldl_take hx]
    generalize (xs.take k).foldl gcdF 0 = g at h1 ⊢
    refine ⟨gcdF_nonneg _ _, ?_⟩
    unfold gcdF
    rcases Nat.eq_zero_or_pos x.toNat with h0 | h0
    · rw [h0, Nat.gcd_zero_right]; omega
    · have := Nat.gcd_le_right g.toNat h0
      omega

/-! the program -/

theorem implGivenOk_any (w : World) (v : Value) (m : List Int) (a b : Int) (hv : IRd w v m) :
    Calls Try.prog 73 #[v, .int .i64 a, .int .i64 b] w fun r w' => r = .returned (.bool (meaB m && (evB (m.length : Int) a && evB (m.length : Int) b))) ∧ w = w' := by
  obtain ⟨A, c, rfl, hl, hmx, -⟩ := id hv
  have HV := Lib.hid hv
  clear hv
  go_enter Try.func73, Try.ntmps73
  go_wp2_with fail
  refine (implMeasureOk_any _ _ _ HV.out).mono ?_
  rintro r w' ⟨rfl, rfl⟩
  cases h1 : meaB m with
  | false =>
    go_wp2_with fail
    go_ret
    exact ⟨ret_bool (by rw [h1]; rfl), rfl⟩
  | true =>
    go_wp2_with fail
    refine (implEventOk_any _ _ _).mono ?_
    rintro r w' ⟨rfl, rfl⟩
    cases h2 : evB (m.length : Int) a with
    | false =>
      go_wp2_with fail
      go_ret
      exact ⟨ret_bool (by rw [h1, h2]; rfl), rfl⟩
    | true =>
      go_wp2_with fail
      refine (implEventOk_any _ _ _).mono ?_
      rintro r w' ⟨rfl, rfl⟩
      go_wp2_with fail
      go_ret
      exact ⟨ret_bool (by rw [h1, h2]; rfl), rfl⟩

set_option maxRecDepth 100000 in
set_option maxHeartbeats 2000000 in
theorem implCommon_any (a b : Int) (h1 : 0 ≤ a ∧ a ≤ 1000000) (h2 : 0 ≤ b ∧ b ≤ 1000000) (w : World) :
    Calls Try.prog 75 #[.int .i64 a, .int .i64 b] w (IntPost (gcdF a b) w) := by
  obtain ⟨n, rfl⟩ : ∃ n : Nat, a = n := ⟨a.toNat, by omega⟩
  obtain ⟨d, rfl⟩ : ∃ d : Nat, b = d := ⟨b.toNat, by omega⟩
  have hn : n ≤ 1000000 := by omega
  have hd : d ≤ 1000000 := by omega
  clear h1 h2
  go_enter Try.func75, Try.ntmps75
  go_wp2_with fail
  go_loopw [0, 1] (fun x y wr => ∃ u v : Nat, x = .int .i64 (u : Int) ∧ y = .int .i64 (v : Int) ∧ u ≤ 1000000 ∧ v ≤ 1000000 ∧ Hid (Nat.gcd v u = Nat.gcd d n) ∧ Hid (Below w.heap.size w wr)) (fun _ y _ => (intOf y).toNat)
  case atStart => exact ⟨n, d, rfl, rfl, hn, hd, Lib.hid rfl, Lib.hid (Below.refl _ _)⟩
  case round =>
    obtain ⟨u, v, rfl, rfl, hu, hv, HG, HB⟩ := hrel
    by_cases hv0 : 0 < v
    · have hv1 : (0 : Int) < (v : Int) := by omega
      have hvn : ((v : Int) == 0) = false := by rw [beq_eq_false_iff_ne]; omega
      have hvz : ¬ ((v : Int) = 0) := by omega
      have ht : (u : Int).tmod (v : Int) = ((u % v : Nat) : Int) := by rw [Int.tmod_eq_emod_of_nonneg (by omega)]; rfl
      have hr : u % v < v := Nat.mod_lt _ hv0
      have HG2 := Lib.hid (gc_step HG.out)
      obtain ⟨x, hx⟩ : ∃ x, u % v = x := ⟨_, rfl⟩
      rw [hx] at ht hr HG2
      clear hx
      go_wp2_with fail
      go_region
      all_goals
        go_wp2_with fail
        go_roundw
        case rel => exact ⟨v, x, rfl, rfl, hv, by omega, HG2, Lib.hid HB.out.drew⟩
        case measure => simp [intOf]; omega
    · obtain rfl : v = 0 := by omega
      have HE : Hid (u = Nat.gcd n d) := Lib.hid (by have := HG.out; rw [Nat.gcd_zero_left] at this; rw [this, Nat.gcd_comm])
      clear HG
      go_wp2_with fail
      go_ret
      exact ⟨ret_int (by rw [gcdF, Int.toNat_natCast, Int.toNat_natCast, HE.out]), HB.out⟩

theorem two_ret {x y u v : Int} {w w' : World} (h : u = x) (k : v = y) (hb : Below w.heap.size w w') : (Ending.returned (.tuple #[.int .i64 u, .int .i64 v]) = .returned (.tuple #[.int .i64 x, .int .i64 y])) ∧ Below w.heap.size w w' := by subst h k; exact ⟨rfl, hb⟩

set_option maxRecDepth 100000 in
set_option maxHeartbeats 2000000 in
theorem implTerms_any (x y g : Int) (h1 : 0 ≤ x ∧ x ≤ 36) (h2 : 1 ≤ y ∧ y ≤ 36) (hg : gcI x y = g) (w : World) :
    Calls Try.prog 65 #[.int .i64 x, .int .i64 y] w fun r w' => r = .returned (.tuple #[.int .i64 (x / g), .int .i64 (y / g)]) ∧ Below w.heap.size w w' := by
  have hgc : gcdF x y = g := by
    rw [← hg, gcdF, gcI, Nat.max_eq_left]
    exact Nat.gcd_pos_of_pos_right _ (by omega)
  have hg1 : 1 ≤ g := by rw [← hg]; exact gcI_pos x y
  have hgn : (g == 0) = false := by rw [beq_eq_false_iff_ne]; omega
  have hgz : ¬ (g = 0) := by omega
  have hq1 : x.tdiv g = x / g := Int.tdiv_eq_ediv_of_nonneg h1.1
  have hq2 : y.tdiv g = y / g := Int.tdiv_eq_ediv_of_nonneg (by omega)
  have hx1 : 0 ≤ x / g ∧ x / g ≤ 36 := ⟨Int.ediv_nonneg h1.1 (by omega), Int.le_trans (Int.ediv_le_self g h1.1) h1.2⟩
  have hy1 : 0 ≤ y / g ∧ y / g ≤ 36 := ⟨Int.ediv_nonneg (by omega) (by omega), Int.le_trans (Int.ediv_le_self g (by omega)) h2.2⟩
  have hw1 : wrap64 (x / g) = x / g := IntWalk.wrap64_in _ (by omega)
  have hw2 : wrap64 (y / g) = y / g := IntWalk.wrap64_in _ (by omega)
  have HG := Lib.hid hgc
  have HW := Lib.hid (And.intro hw1 hw2)
  clear hgc hg hx1 hy1
  go_enter Try.func65, Try.ntmps65
  go_wp2_with fail
  refine (implCommon_any x y ⟨h1.1, by omega⟩ ⟨by omega, by omega⟩ _).mono ?_
  rintro r w1 ⟨rfl, b1⟩
  rw [HG.out]
  have HB := Lib.hid b1
  clear b1
  go_wp2_with fail
  go_region
  all_goals
    go_wp2_with fail
    go_returns
    exact two_ret (by first | rfl | exact HW.out.1) (by first | rfl | exact HW.out.2) HB.out.drew

set_option maxHeartbeats 2000000 in
theorem implOnlyIn_any (w : World) (v : Value) (m : List Int) (e : Int) (hv : IRd w v m) (h4 : m.length ≤ 4) (e1 : 0 ≤ e) (e2 : e ≤ 15) :
    Calls Try.prog 67 #[v, .int .i64 e] w (NewInts (onlyL m e) w) := by
  obtain ⟨A, c, rfl, hlc, hm, -⟩ := id hv
  have HV := Lib.hid hv
  have HZ := Lib.hid (only_len m e)
  clear hv
  obtain ⟨i0, hi, hz0, hz1, hz2⟩ := info_parts Try_intinfo
  go_enter Try.func67, Try.ntmps67
  go_wp2_with (at_make; refine wpList_make_full _ rfl _ _ 23 rfl w.heap.size 3 i0 (.int .i64 0) 1 Try.underlying23 hi hz0 hz1 .i64 .i64 _ _ m.length rfl rfl rfl rfl ?b2 ?b3 (Nat.le_refl _) ?_)
  case b2 => rw [hz2]; omega
  case b3 => unfold maxLen; omega
  intro w0 hown0 hgrow0
  have H0 : Hid (FillRel w (onlyL m e) m.length 0 w0) := Lib.hid ⟨by rw [copied_zero, HZ.out]; simpa [toList_madeCells_one, Value.cells] using hown0, (Below.refl _ _).grown hgrow0 (Nat.le_refl _) (fun k hk => by cases hk)⟩
  clear hown0 hgrow0 hi hz0 hz1 hz2
  go_wp2_with fail
  go_loopw [13] (fun i wr => ∃ k : Nat, i = .int .i64 k ∧ k ≤ m.length ∧ Hid (FillRel w (onlyL m e) m.length k wr)) (fun i _ => m.length - (intOf i).toNat)
  case atStart => exact ⟨0, rfl, Nat.zero_le _, H0⟩
  case round =>
    obtain ⟨k, rfl, hk, H⟩ := hrel
    clear H0
    by_cases hlt : k < m.length
    · obtain ⟨b, off, x, rfl, -, hx, hcx⟩ := (HV.out.keep (SameAt.of_below H.out.2)).at_ hlt
      have hfz := H.out.1.frozenAt k
      obtain ⟨old, hold⟩ := some_cell H.out.1 (k := k) (by omega)
      have HS := Lib.hid (only_at (e := e) hx)
      clear hx
      rcases bitI_01 e k with hb | hb
      · have HB1 : Hid ((bitI e k == 1) = false) := Lib.hid (by rw [hb]; rfl)
        have HX : Hid ((onlyL m e)[k]? = some 0) := Lib.hid (by rw [HS.out, hb, Int.zero_mul])
        clear hb
        go_wp2_with (go_at_call 77; refine (hasQ_any _ _ e1 e2 (by omega) _).mono ?_; rintro r w' ⟨rfl, rfl⟩; rw [HB1.out])
        go_roundw
        case rel => exact ⟨k + 1, by go_num, by omega, Lib.hid (H.out.skip HX.out)⟩
        case measure => simp [intOf]; omega
      · have HB1 : Hid ((bitI e k == 1) = true) := Lib.hid (by rw [hb]; rfl)
        have HX : Hid ((onlyL m e)[k]? = some x) := Lib.hid (by rw [HS.out, hb, Int.one_mul])
        clear hb
        go_wp2_with (go_at_call 77; refine (hasQ_any _ _ e1 e2 (by omega) _).mono ?_; rintro r w' ⟨rfl, rfl⟩; rw [HB1.out])
        go_roundw
        case rel => exact ⟨k + 1, by go_num, by omega, (show Hid _ from H.out.step HX.out)⟩
        case measure => simp [intOf]; omega
    · go_wp2_with fail
      go_ret
      obtain ⟨h1, h2⟩ := H.out.all HZ.out (by omega)
      exact ⟨_, rfl, h1, h2⟩

/-- the function value commonDivisor -/
def commonF : Value := .func (.func 75) #[] #[]

set_option maxHeartbeats 2000000 in
theorem foldCommon_any (w : World) (v : Value) (xs : List Int) (hv : IRd w v xs) (hg : Grs xs) :
    Calls Try.prog 56 #[v, .int .i64 0, commonF] w (IntPost (gcdL xs) w) := by
  obtain ⟨A, c, rfl, hl, hm, -⟩ := id hv
  have HV := Lib.hid hv
  have HG := Lib.hid hg
  clear hv hg
  unfold commonF
  go_enter Try.func56, Try.ntmps56
  go_wp2_with fail
  go_loopw [1, 11] (fun t i wr => ∃ (k : Nat) (n : Int), i = .int .i64 k ∧ k ≤ xs.length ∧ t = .int .i64 n ∧ Hid (n = (xs.take k).foldl gcdF 0) ∧ Hid (Below w.heap.size w wr)) (fun _ i _ => xs.length - (intOf i).toNat)
  case atStart => exact ⟨0, 0, rfl, Nat.zero_le _, rfl, Lib.hid (by simp), Lib.hid (Below.refl _ _)⟩
  case round =>
    obtain ⟨k, n, rfl, hk, rfl, HN, HB⟩ := hrel
    by_cases hlt : k < xs.length
    · obtain ⟨b, off, x, rfl, -, hx, hcx⟩ := (HV.out.keep (SameAt.of_below HB.out)).at_ hlt
      obtain ⟨x1, x2⟩ := HG.out.1 x (List.mem_of_getElem? hx)
      obtain ⟨n1, n2⟩ : 0 ≤ n ∧ n ≤ 36 := by rw [HN.out]; exact gcd_le36 HG.out k (by omega)
      have HX := Lib.hid hx
      clear hx
      go_wp2_with fail
      refine (implCommon_any n x ⟨n1, by omega⟩ ⟨x1, by omega⟩ _).mono ?_
      rintro r w2 ⟨rfl, b2⟩
      have HB2 := Lib.hid (below_step HB.out b2 HB.out.size)
      clear b2
      go_wp2_with fail
      go_roundw
      case rel => exact ⟨k + 1, _, by go_num, by omega, rfl, Lib.hid (by rw [foldl_take HX.out, ← HN.out]), HB2⟩
      case measure => simp [intOf]; omega
    · go_wp2_with fail
      go_ret
      exact ⟨ret_int (by rw [HN.out, List.take_of_length_le (by omega)]; rfl), HB.out⟩

set_option maxHeartbeats 2000000 in
theorem implLeastRow_any (w : World) (v : Value) (xs : List Int) (g : Int) (hv : IRd w v xs) (hgr : Grs xs) (hg : gcdL xs = g) (hg1 : 1 ≤ g) :
    Calls Try.prog 59 #[v] w (NewInts (xs.map (fun x => x / g)) w) := by
  obtain ⟨A, c, rfl, hlc, hm, -⟩ := id hv
  have h4 := hgr.2
  have hgz : ¬ (g = 0) := by omega
  have HV : Hid (∀ wr, Below w.heap.size w wr → IRd wr (.slice A xs.length c) xs) := Lib.hid (fun wr h => hv.keep (SameAt.of_below h))
  have HG := Lib.hid hgr
  have HD := Lib.hid hg
  have HZ : Hid ((xs.map (fun x => x / g)).length = xs.length) := Lib.hid (by simp)
  clear hgr hg
  obtain ⟨i0, hi, hz0, hz1, hz2⟩ := info_parts Try_intinfo
  go_enter Try.func59, Try.ntmps59
  go_wp2_with fail
  refine (foldCommon_any _ _ xs (HV.out _ (Below.refl _ _)) HG.out).mono ?_
  rintro r w1 ⟨rfl, b1⟩
  rw [HD.out]
  have HB := Lib.hid b1
  have HVW : Hid (∀ wr, Below w1.heap.size w1 wr → IRd wr (.slice A xs.length c) xs) := Lib.hid (fun wr h => HV.out _ (below_step b1 h b1.size))
  clear b1 HV hv
  go_wp2_with (at_make; refine wpList_make_full _ rfl _ _ 23 rfl w1.heap.size 3 i0 (.int .i64 0) 1 Try.underlying23 hi hz0 hz1 .i64 .i64 _ _ xs.length rfl rfl rfl rfl ?b2 ?b3 (Nat.le_refl _) ?_)
  case b2 => rw [hz2]; omega
  case b3 => unfold maxLen; omega
  intro w0 hown0 hgrow0
  have H0 : Hid (FillRel w1 (xs.map (fun x => x / g)) xs.length 0 w0) := Lib.hid ⟨by rw [copied_zero, HZ.out]; simpa [toList_madeCells_one, Value.cells] using hown0, (Below.refl _ _).grown hgrow0 (Nat.le_refl _) (fun k hk => by cases hk)⟩
  clear hown0 hgrow0 hi hz0 hz1 hz2
  go_wp2_with fail
  go_loopw [14] (fun i wr => ∃ k : Nat, i = .int .i64 k ∧ k ≤ xs.length ∧ Hid (FillRel w1 (xs.map (fun x => x / g)) xs.length k wr)) (fun i _ => xs.length - (intOf i).toNat)
  case atStart => exact ⟨0, rfl, Nat.zero_le _, H0⟩
  case round =>
    obtain ⟨k, rfl, hk, H⟩ := hrel
    clear H0
    by_cases hlt : k < xs.length
    · obtain ⟨b, off, x, rfl, -, hx, hcx⟩ := (HVW.out wr H.out.2).at_ hlt
      obtain ⟨x1, x2⟩ := HG.out.1 x (List.mem_of_getElem? hx)
      have hfz := H.out.1.frozenAt k
      obtain ⟨old, hold⟩ := some_cell H.out.1 (k := k) (by omega)
      have hq : x.tdiv g = x / g := Int.tdiv_eq_ediv_of_nonneg x1
      have hxb : 0 ≤ x / g ∧ x / g ≤ 36 := ⟨Int.ediv_nonneg x1 (by omega), Int.le_trans (Int.ediv_le_self g x1) x2⟩
      obtain ⟨y, hy⟩ : ∃ y, x / g = y := ⟨_, rfl⟩
      rw [hy] at hq hxb
      have hwy : wrap64 y = y := IntWalk.wrap64_in _ (by omega)
      have hwy2 : IntKind.i64.wrap y = y := IntWalk.i64_in _ (by omega)
      have HS : Hid ((xs.map (fun x => x / g))[k]? = some y) := Lib.hid (by rw [List.getElem?_map, hx, Option.map_some, hy])
      clear hx hy
      go_wp2_with fail
      go_roundw
      case rel => exact ⟨k + 1, by go_num, by omega, (show Hid _ from H.out.step HS.out)⟩
      case measure => simp [intOf]; omega
    · go_wp2_with fail
      go_ret
      obtain ⟨h1, h2⟩ := H.out.all HZ.out (by omega)
      exact ⟨_, rfl, h1.base HB.out.size, below_step HB.out h2 HB.out.size⟩

set_option maxRecDepth 100000 in
set_option maxHeartbeats 4000000 in
theorem implGivenBy_any (w : World) (v : Value) (m : List Int) (a b : Int) (hv : IRd w v m) :
    Calls Try.prog 42 #[v, .int .i64 a, .int .i64 b] w (FracPost (givN m a b) (givD m a b) (givB m a b) w) := by
  obtain ⟨A, c, rfl, hl, hmx, -⟩ := id hv
  have HV : Hid (∀ wr, Below w.heap.size w wr → IRd wr (.slice A m.length c) m) := Lib.hid (fun wr h => hv.keep (SameAt.of_below h))
  clear hv
  rcases Bool.eq_false_or_eq_true (meaB m && (evB (m.length : Int) a && evB (m.length : Int) b)) with h1 | h1
  · obtain ⟨hm, ha, hb⟩ : meaB m = true ∧ evB (m.length : Int) a = true ∧ evB (m.length : Int) b = true := by simpa [Bool.and_eq_true] using h1
    have HG := Lib.hid (grs_of hm)
    obtain ⟨a1, a2⟩ := evB_15 ha
    obtain ⟨b1, b2⟩ := evB_15 hb
    obtain ⟨y, hy⟩ : ∃ y, onI m b = y := ⟨_, rfl⟩
    have hyb := mea_on hm b
    rw [hy] at hyb
    by_cases h0 : y = 0
    · subst h0
      have HN : Hid (givB m a b = false) := Lib.hid (by rw [givB, hm, ha, hb, hy]; rfl)
      have HY := Lib.hid hy
      go_enter Try.func42, Try.ntmps42
      go_wp2_with fail
      refine (implGivenOk_any _ _ m _ _ (HV.out _ (Below.refl _ _))).mono ?_
      rintro r w' ⟨rfl, rfl⟩
      rw [h1]
      clear h1 hm ha hb hy
      go_wp2_with fail
      refine (implGrains_any _ _ m b (HV.out _ (Below.refl _ _)) HG.out b1 b2).mono ?_
      rintro r w' ⟨rfl, rfl⟩
      rw [HY.out]
      go_wp2_with fail
      go_returns
      exact frac_ret (giv_no HN.out).1 (giv_no HN.out).2 HN.out (Below.refl _ _)
    · have hyn : (y == 0) = false := by rw [beq_eq_false_iff_ne]; exact h0
      have hy1 : 1 ≤ y := by omega
      have HT : Hid (givB m a b = true) := Lib.hid (by rw [givB, hm, ha, hb, hy, hyn]; rfl)
      obtain ⟨x, hx⟩ : ∃ x, onI m (andI a b) = x := ⟨_, rfl⟩
      have hxb := mea_on hm (andI a b)
      rw [hx] at hxb
      obtain ⟨g, hg⟩ : ∃ g, gcI x y = g := ⟨_, rfl⟩
      have HGV : Hid (givN m a b = x / g ∧ givD m a b = y / g) := Lib.hid ⟨by rw [givN, if_pos HT.out, hx, hy, hg], by rw [givD, if_pos HT.out, hx, hy, hg]⟩
      have hand := and_is (a := a) (b := b) ⟨a1, a2⟩ ⟨b1, b2⟩
      have hab := and_bound (a := a) (b := b) ⟨a1, a2⟩ ⟨b1, b2⟩
      obtain ⟨z, hz⟩ : ∃ z, andI a b = z := ⟨_, rfl⟩
      rw [hz] at hx hand hab
      have HX := Lib.hid hx
      have HY := Lib.hid hy
      have HGC := Lib.hid hg
      go_enter Try.func42, Try.ntmps42
      go_wp2_with fail
      refine (implGivenOk_any _ _ m _ _ (HV.out _ (Below.refl _ _))).mono ?_
      rintro r w' ⟨rfl, rfl⟩
      rw [h1]
      clear h1 hm ha hb hy hx hg hz h0
      go_wp2_with fail
      refine (implGrains_any _ _ m b (HV.out _ (Below.refl _ _)) HG.out b1 b2).mono ?_
      rintro r w' ⟨rfl, rfl⟩
      rw [HY.out]
      go_wp2_with fail
      refine (implGrains_any _ _ m z (HV.out _ (Below.refl _ _)) HG.out hab.1 hab.2.2).mono ?_
      rintro r w' ⟨rfl, rfl⟩
      rw [HX.out]
      go_wp2_with fail
      refine (implTerms_any x y g hxb ⟨hy1, hyb.2⟩ HGC.out _).mono ?_
      rintro r w3 ⟨rfl, b3⟩
      have HB3 := Lib.hid b3
      clear b3 hab
      go_wp2_with fail
      go_returns
      exact frac_ret HGV.out.1 HGV.out.2 HT.out HB3.out
  · have HN : Hid (givB m a b = false) := Lib.hid (by
      rw [← Bool.not_eq_true]
      intro hf
      obtain ⟨k1, k2, k3, -⟩ := (givB_iff m a b).1 hf
      rw [k1, k2, k3] at h1; cases h1)
    go_enter Try.func42, Try.ntmps42
    go_wp2_with fail
    refine (implGivenOk_any _ _ m _ _ (HV.out _ (Below.refl _ _))).mono ?_
    rintro r w' ⟨rfl, rfl⟩
    rw [h1]
    go_wp2_with fail
    go_returns
    exact frac_ret (giv_no HN.out).1 (giv_no HN.out).2 HN.out (Below.refl _ _)

set_option maxRecDepth 100000 in
set_option maxHeartbeats 4000000 in
theorem implAfterEvent_any (w : World) (v : Value) (m : List Int) (e : Int) (hv : IRd w v m) :
    Calls Try.prog 41 #[v, .int .i64 e] w (RowOk w.heap.size (aftR m e) (aftB m e) w) := by
  obtain ⟨A, c, rfl, hl, hmx, -⟩ := id hv
  have HV : Hid (∀ wr, Below w.heap.size w wr → IRd wr (.slice A m.length c) m) := Lib.hid (fun wr h => hv.keep (SameAt.of_below h))
  clear hv
  rcases Bool.eq_false_or_eq_true (meaB m) with h1 | h1
  · rcases Bool.eq_false_or_eq_true (evB (m.length : Int) e) with h2 | h2
    · have HM := Lib.hid (grs_of h1)
      obtain ⟨e1, e2⟩ := evB_15 h2
      obtain ⟨y0, hy0⟩ : ∃ y, onI m e = y := ⟨_, rfl⟩
      have HY := Lib.hid hy0
      by_cases h0 : y0 = 0
      · subst h0
        have HN : Hid (aftB m e = false) := Lib.hid (by rw [aftB, h1, h2, hy0]; rfl)
        clear hy0
        go_enter Try.func41, Try.ntmps41
        go_wp2_with fail
        refine (implMeasureOk_any _ _ _ (HV.out _ (Below.refl _ _))).mono ?_
        rintro r w' ⟨rfl, rfl⟩
        rw [h1]
        go_wp2_with fail
        refine (implEventOk_any _ _ _).mono ?_
        rintro r w' ⟨rfl, rfl⟩
        rw [h2]
        go_wp2_with fail
        refine (implGrains_any _ _ m e (HV.out _ (Below.refl _ _)) HM.out e1 e2).mono ?_
        rintro r w' ⟨rfl, rfl⟩
        rw [HY.out]
        go_wp2_with fail
        go_ret2
        exact rowOk_ret HN.out (aftR_no HN.out) (nil_own _ _) (Below.refl _ _)
      · have hyn : (y0 == 0) = false := by rw [beq_eq_false_iff_ne]; exact h0
        have HT : Hid (aftB m e = true) := Lib.hid (by rw [aftB, h1, h2, hy0, hyn]; rfl)
        have HA := Lib.hid (aft_of_only HT.out)
        have HL : Hid (m.length ≤ 4) := Lib.hid (grs_of h1).2
        clear hy0
        go_enter Try.func41, Try.ntmps41
        go_wp2_with fail
        refine (implMeasureOk_any _ _ _ (HV.out _ (Below.refl _ _))).mono ?_
        rintro r w' ⟨rfl, rfl⟩
        rw [h1]
        go_wp2_with fail
        refine (implEventOk_any _ _ _).mono ?_
        rintro r w' ⟨rfl, rfl⟩
        rw [h2]
        go_wp2_with fail
        refine (implGrains_any _ _ m e (HV.out _ (Below.refl _ _)) HM.out e1 e2).mono ?_
        rintro r w' ⟨rfl, rfl⟩
        rw [HY.out]
        go_wp2_with fail
        refine (implOnlyIn_any _ _ m e (HV.out _ (Below.refl _ _)) HL.out e1 e2).mono ?_
        rintro r w1 ⟨v1, rfl, o1, b1⟩
        have O1 := Lib.hid o1
        have HB1 := Lib.hid b1
        clear o1 b1
        go_wp2_with fail
        refine (implLeastRow_any _ v1 _ _ O1.out.rd (only_grs HM.out e) rfl HA.out.1).mono ?_
        rintro r w2 ⟨v2, rfl, o2, b2⟩
        rw [HA.out.2] at o2
        have O2 := Lib.hid o2
        have HB2 := Lib.hid b2
        clear o2 b2
        go_wp2_with fail
        go_ret2
        exact rowOk_ret HT.out (aftR_yes HT.out) (O2.out.base HB1.out.size) (below_step HB1.out HB2.out HB1.out.size)
    · have HN : Hid (aftB m e = false) := Lib.hid (by rw [aftB, h1, h2]; rfl)
      go_enter Try.func41, Try.ntmps41
      go_wp2_with fail
      refine (implMeasureOk_any _ _ _ (HV.out _ (Below.refl _ _))).mono ?_
      rintro r w' ⟨rfl, rfl⟩
      rw [h1]
      go_wp2_with fail
      refine (implEventOk_any _ _ _).mono ?_
      rintro r w' ⟨rfl, rfl⟩
      rw [h2]
      go_wp2_with fail
      go_ret2
      exact rowOk_ret HN.out (aftR_no HN.out) (nil_own _ _) (Below.refl _ _)
  · have HN : Hid (aftB m e = false) := Lib.hid (by rw [aftB, h1]; rfl)
    go_enter Try.func41, Try.ntmps41
    go_wp2_with fail
    refine (implMeasureOk_any _ _ _ (HV.out _ (Below.refl _ _))).mono ?_
    rintro r w' ⟨rfl, rfl⟩
    rw [h1]
    go_wp2_with fail
    go_ret2
    exact rowOk_ret HN.out (aftR_no HN.out) (nil_own _ _) (Below.refl _ _)

end Go.Proofs.Ytbjmhbkpeglpkaa
