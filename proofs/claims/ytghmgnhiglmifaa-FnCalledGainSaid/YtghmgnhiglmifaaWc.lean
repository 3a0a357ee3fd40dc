/- Contracts of spec's CalledGain, l8Divisor, AfterEvent; the facts of what is left of a measure. Conditions: rows that read as lists. -/
import Derived.Test.YtghmgnhiglmifaaWb
namespace Go.Proofs.Ytghmgnhiglmifaa
open Go.RowKit
set_option linter.unusedVariables false

/-- a bit as the program reckons it -/
theorem bit_tmod8 {e : Int} (h0 : 0 ≤ e) (k : Nat) : ∃ u : Int, (e / 2 ^ k).tmod 2 = u ∧ bitI e k = u ∧ 0 ≤ u ∧ u ≤ 1 := by
  have h2 : 0 ≤ e / 2 ^ k := Int.ediv_nonneg h0 (Int.le_of_lt (Int.pow_pos (by decide)))
  refine ⟨bitI e k, by rw [Int.tmod_eq_emod_of_nonneg h2]; rfl, rfl, ?_, ?_⟩
  all_goals (rcases bitI_01 e k with h | h <;> rw [h] <;> decide)

/-! what is left of a measure if an event comes true -/

/-- the greatest common divisor of the grains on the first k worlds of an event, 0 if there are none -/
def divG (m : List Int) (e : Int) : Nat → Nat
  | 0 => 0
  | k + 1 => Nat.gcd (divG m e k) (bitI e k * m.getD k 0).toNat

def divI (m : List Int) (e : Int) : Int := ((max (divG m e m.length) 1 : Nat) : Int)

def aftI (m : List Int) (e : Int) (k : Nat) : Int := bitI e k * m.getD k 0 / divI m e

def aftL (m : List Int) (e : Int) : List Int := (List.range m.length).map (aftI m e)

def aftB (m : List Int) (e : Int) : Bool := meaB m && (evB (m.length : Int) e && !(onI m e == 0))

def aftR (m : List Int) (e : Int) : List Int := if aftB m e = true then aftL m e else []

theorem aft_len (m : List Int) (e : Int) : (aftL m e).length = m.length := by simp [aftL]

theorem aft_at {m : List Int} {e : Int} {k : Nat} (h : k < m.length) : (aftL m e)[k]? = some (aftI m e k) := by
  rw [aftL, List.getElem?_map, List.getElem?_range h]; rfl

theorem getD_at {m : List Int} {k : Nat} {x : Int} (h : m[k]? = some x) : m.getD k 0 = x := by rw [List.getD_eq_getElem?_getD, h]; rfl

theorem divG_dvd (m : List Int) (e : Int) (n : Nat) : ∀ j, j < n → divG m e n ∣ (bitI e j * m.getD j 0).toNat := by
  induction n with
  | zero => intro j hj; omega
  | succ n ih =>
    intro j hj
    rcases Nat.lt_succ_iff_lt_or_eq.1 hj with h | rfl
    · exact Nat.dvd_trans (Nat.gcd_dvd_left _ _) (ih j h)
    · exact Nat.gcd_dvd_right _ _

theorem divI_pos (m : List Int) (e : Int) : 1 ≤ divI m e := by unfold divI; omega

/-- the grains of each world of the event are that divisor times what is left -/
theorem aft_scale {m : List Int} (hm : ∀ x ∈ m, 0 ≤ x) (e : Int) {k : Nat} (hk : k < m.length) : bitI e k * m.getD k 0 = divI m e * aftI m e k ∧ 0 ≤ aftI m e k ∧ 0 ≤ bitI e k * m.getD k 0 := by
  obtain ⟨x, hx⟩ : ∃ x, m[k]? = some x := ⟨_, List.getElem?_eq_getElem hk⟩
  have h0 : 0 ≤ bitI e k * m.getD k 0 := by
    rw [getD_at hx]
    have := hm x (List.mem_of_getElem? hx)
    rcases bitI_01 e k with h | h <;> rw [h] <;> omega
  have hd := divG_dvd m e m.length k hk
  obtain ⟨y, hy⟩ : ∃ y : Nat, bitI e k * m.getD k 0 = y := ⟨(bitI e k * m.getD k 0).toNat, by omega⟩
  rw [hy, Int.toNat_natCast] at hd
  have hdv : (max (divG m e m.length) 1) ∣ y := by
    rcases Nat.eq_zero_or_pos (divG m e m.length) with hz | hz
    · rw [hz] at hd ⊢
      obtain rfl : y = 0 := by simpa using hd
      exact Nat.dvd_zero _
    · rwa [Nat.max_eq_left hz]
  obtain ⟨q, rfl⟩ := hdv
  have h1 := divI_pos m e
  have hq : aftI m e k = q := by
    unfold aftI
    rw [hy]
    unfold divI at h1 ⊢
    rw [← Int.natCast_ediv, Nat.mul_div_cancel_left _ (by omega)]
  rw [hy, hq]
  refine ⟨?_, by omega, by omega⟩
  unfold divI
  push_cast
  rfl

theorem aft_off {m : List Int} {e : Int} {k : Nat} (h : bitI e k = 0) : aftI m e k = 0 := by rw [aftI, h, Int.zero_mul, Int.zero_ediv]

/-- grains that are left go as before -/
theorem aft_go {m : List Int} (hm : ∀ x ∈ m, 0 ≤ x) {e : Int} {k j : Nat} (hk : k < m.length) (hj : j < m.length) (bk : bitI e k = 1) (bj : bitI e j = 1) : aftI m e k * m.getD j 0 = aftI m e j * m.getD k 0 := by
  obtain ⟨h1, -, -⟩ := aft_scale hm e hk
  obtain ⟨h2, -, -⟩ := aft_scale hm e hj
  rw [bk, Int.one_mul] at h1
  rw [bj, Int.one_mul] at h2
  rw [h1, h2]
  grind

theorem aft_bound {m : List Int} (hm : Grs m) (e : Int) {k : Nat} (hk : k < m.length) : 0 ≤ aftI m e k ∧ aftI m e k ≤ 36 := by
  obtain ⟨h1, h2, h3⟩ := aft_scale (fun x hx => (hm.1 x hx).1) e hk
  refine ⟨h2, ?_⟩
  obtain ⟨x, hx⟩ : ∃ x, m[k]? = some x := ⟨_, List.getElem?_eq_getElem hk⟩
  have hb := hm.1 x (List.mem_of_getElem? hx)
  have h4 : bitI e k * m.getD k 0 ≤ 36 := by
    rw [getD_at hx]
    rcases bitI_01 e k with h | h <;> rw [h] <;> omega
  have h5 : 1 * aftI m e k ≤ divI m e * aftI m e k := Int.mul_le_mul_of_nonneg_right (divI_pos m e) h2
  omega

theorem aftB_iff (m : List Int) (e : Int) : aftB m e = true ↔ meaB m = true ∧ evB (m.length : Int) e = true ∧ onI m e ≠ 0 := by
  simp [aftB]

theorem aftR_yes {m : List Int} {e : Int} (h : aftB m e = true) : aftR m e = aftL m e := by rw [aftR, if_pos h]

theorem aftR_no {m : List Int} {e : Int} (h : aftB m e = false) : aftR m e = [] := by rw [aftR, h]; rfl

theorem calR_yes {n a b p : Int} (h : calB n a b p = true) : calR n a b p = calL n a b p := by rw [calR, if_pos h]

theorem calR_no {n a b p : Int} (h : calB n a b p = false) : calR n a b p = [] := by rw [calR, h]; rfl

set_option maxRecDepth 100000 in
set_option maxHeartbeats 8000000 in
theorem specCalledGain_any (w : World) (n a b p : Int) :
    Calls Try.prog 21 #[.int .i64 n, .int .i64 a, .int .i64 b, .int .i64 p] w (NewInts (calR n a b p) w) := by
  obtain ⟨i0, hi, hz0, hz1, hz2⟩ := info_parts Try_intinfo
  have H0 : Hid (AppRel w (calL n a b p) 0 (.slice (some ⟨w.heap.size, 0, none⟩) 0 0) (w.alloc (.cells #[] 3))) := Lib.hid (app_start w _)
  rcases Bool.eq_false_or_eq_true (calB n a b p) with h | h
  · obtain ⟨ha, hb, hp0, hp6⟩ := (calB_iff n a b p).1 h
    have hin : inB p 0 6 = true := (inB_iff _ _ _).2 ⟨hp0, hp6⟩
    have hn := (evB_iff n a).1 ha
    obtain ⟨N, rfl⟩ : ∃ N : Nat, n = N := ⟨n.toNat, by omega⟩
    have hN4 : N ≤ 4 := by omega
    obtain ⟨a1, a2⟩ := evB_15 ha
    obtain ⟨b1, b2⟩ := evB_15 hb
    have H := Lib.hid h
    have HZ : Hid ((calL (N : Int) a b p).length = N) := Lib.hid (by rw [cal_len, Int.toNat_natCast])
    have HEA := Lib.hid ha
    have HEB := Lib.hid hb
    have HIN := Lib.hid hin
    clear h ha hb hin hn
    go_enter Try.func21, Try.ntmps21
    go_wp2_with fail
    go_loopw [9, 10] (fun q i wr => ∃ k : Nat, i = .int .i64 (k : Int) ∧ k ≤ N ∧ Hid (AppRel w (calL (N : Int) a b p) k q wr)) (fun _ i _ => N - (intOf i).toNat)
    case atStart => exact ⟨0, rfl, Nat.zero_le _, H0⟩
    case round =>
      obtain ⟨k, rfl, hk, HF⟩ := hrel
      clear H0
      by_cases hlt : k < N
      · have hlt' : (k : Int) < (N : Int) := by omega
        obtain ⟨u, htb, hub, u0, u1⟩ := bit_tmod8 (e := b) b1 k
        obtain ⟨s, hta, hua, s0, s1⟩ := bit_tmod8 (e := a) a1 k
        obtain ⟨x, hx⟩ : ∃ x, u * (s * 6 - p) = x := ⟨_, rfl⟩
        have HS : Hid ((calL (N : Int) a b p)[k]? = some x) := Lib.hid (by rw [cal_at (by rw [Int.toNat_natCast]; exact hlt), ← hx, ← hub, ← hua]; rfl)
        have hxb : -6 ≤ x ∧ x ≤ 6 := by rw [← hx, ← hub, ← hua]; exact cal_bound ⟨hp0, hp6⟩ k
        have hw1 : IntKind.i64.wrap (s * 6) = s * 6 := IntWalk.i64_in _ (by omega)
        have hw2 : IntKind.i64.wrap (s * 6 - p) = s * 6 - p := IntWalk.i64_in _ (by omega)
        have hw3 : IntKind.i64.wrap (u * (s * 6 - p)) = x := by rw [hx]; exact IntWalk.i64_in _ (by omega)
        clear hx hub hua
        go_wp2_with fail
        refine (specEventOk_any _ _ _).mono ?_
        rintro r w' ⟨rfl, rfl⟩
        rw [HEA.out]
        go_wp2_with fail
        refine (specEventOk_any _ _ _).mono ?_
        rintro r w' ⟨rfl, rfl⟩
        rw [HEB.out]
        go_wp2_with fail
        refine (l1In_any _ _ _ _).mono ?_
        rintro r w' ⟨rfl, rfl⟩
        rw [HIN.out]
        have BD : Below w.heap.size w wr.drew := HF.out.2.drew
        go_wp2_with fail
        refine wp_region_held_drew (S := fun _ => True) (by kernel_rfl) (trivial) (fun hHeld => ?_)
        refine take_in (i := 0) (v := ?_) rfl (by kernel_rfl) (fun _ _ _ h => h) rfl ?_ hHeld ?_
        rotate_left
        · intro w hSw; go_simp; all_goals with_reducible rfl
        try simp only [Act.put, List.setIfInBounds_toArray, List.set_cons_zero, List.set_cons_succ]
        refine take_in (i := 1) (v := ?_) rfl (by kernel_rfl) (fun _ _ _ h => h) rfl ?_ hHeld ?_
        rotate_left
        · intro w hSw; go_simp; all_goals with_reducible rfl
        try simp only [Act.put, List.setIfInBounds_toArray, List.set_cons_zero, List.set_cons_succ]
        refine take_in (i := 2) (v := ?_) rfl (by kernel_rfl) (fun _ _ _ h => h) rfl ?_ hHeld ?_
        rotate_left
        · intro w hSw; go_simp; all_goals with_reducible rfl
        try simp only [Act.put, List.setIfInBounds_toArray, List.set_cons_zero, List.set_cons_succ]
        refine take_in (i := 3) (v := ?_) rfl (by kernel_rfl) (fun _ _ _ h => h) rfl ?_ hHeld ?_
        rotate_left
        · intro w hSw; go_simp; all_goals with_reducible rfl
        try simp only [Act.put, List.setIfInBounds_toArray, List.set_cons_zero, List.set_cons_succ]
        refine take_in (i := 4) (v := ?_) rfl (by kernel_rfl) (fun _ _ _ h => h) rfl ?_ hHeld ?_
        rotate_left
        · intro w hSw; go_simp; all_goals with_reducible rfl
        try simp only [Act.put, List.setIfInBounds_toArray, List.set_cons_zero, List.set_cons_succ]
        refine take_in (i := 5) (v := ?_) rfl (by kernel_rfl) (fun _ _ _ h => h) rfl ?_ hHeld ?_
        rotate_left
        · intro w hSw; go_simp; all_goals with_reducible rfl
        try simp only [Act.put, List.setIfInBounds_toArray, List.set_cons_zero, List.set_cons_succ]
        refine take_in (i := 6) (v := ?_) rfl (by kernel_rfl) (fun _ _ _ h => h) rfl ?_ hHeld ?_
        rotate_left
        · intro w hSw; go_simp; all_goals with_reducible rfl
        try simp only [Act.put, List.setIfInBounds_toArray, List.set_cons_zero, List.set_cons_succ]
        refine take_in (i := 7) (v := ?_) rfl (by kernel_rfl) (fun _ _ _ h => h) rfl ?_ hHeld ?_
        rotate_left
        · intro w hSw; go_simp; all_goals with_reducible rfl
        try simp only [Act.put, List.setIfInBounds_toArray, List.set_cons_zero, List.set_cons_succ]
        refine take_in (i := 8) (v := ?_) rfl (by kernel_rfl) (fun _ _ _ h => h) rfl ?_ hHeld ?_
        rotate_left
        · intro w hSw; go_simp; all_goals with_reducible rfl
        try simp only [Act.put, List.setIfInBounds_toArray, List.set_cons_zero, List.set_cons_succ]
        refine take_in (i := 9) (v := ?_) rfl (by kernel_rfl) (fun _ _ _ h => h) rfl ?_ hHeld ?_
        rotate_left
        · intro w hSw; go_simp; all_goals with_reducible rfl
        try simp only [Act.put, List.setIfInBounds_toArray, List.set_cons_zero, List.set_cons_succ]
        refine take_in (i := 10) (v := ?_) rfl (by kernel_rfl) (fun _ _ _ h => h) rfl ?_ hHeld ?_
        rotate_left
        · intro w hSw; go_simp; all_goals with_reducible rfl
        try simp only [Act.put, List.setIfInBounds_toArray, List.set_cons_zero, List.set_cons_succ]
        refine take_in (i := 11) (v := ?_) rfl (by kernel_rfl) (fun _ _ _ h => h) rfl ?_ hHeld ?_
        rotate_left
        · intro w hSw; go_simp; all_goals with_reducible rfl
        try simp only [Act.put, List.setIfInBounds_toArray, List.set_cons_zero, List.set_cons_succ]
        refine take_in (i := 12) (v := ?_) rfl (by kernel_rfl) (fun _ _ _ h => h) rfl ?_ hHeld ?_
        rotate_left
        · intro w hSw; go_simp; all_goals with_reducible rfl
        try simp only [Act.put, List.setIfInBounds_toArray, List.set_cons_zero, List.set_cons_succ]
        have BA : Below w.heap.size w (wr.drew.alloc (.cells #[.int .i64 x] 3)) := BD.alloc BD.size _
        refine ready_one (i := 13) rfl (by kernel_rfl) (fun K hK => ?_)
        go_simp
        refine hK.out _ (wr.drew.alloc (.cells #[.int .i64 x] 3)) trivial (fun hHeld => ?_)
        clear hK K
        try simp only [Act.put, List.setIfInBounds_toArray, List.set_cons_zero, List.set_cons_succ]
        have rk := World.ownsRow.alloc (w := wr.drew) (show wr.drew.ownsRow w.heap.size 3 1 u9 _ (((calL (N : Int) a b p).take k).map (Value.int .i64)) from HF.out.1) (.cells #[.int .i64 x] 3)
        have hkl : ((calL (N : Int) a b p).take k).length = k := by rw [List.length_take, HZ.out]; omega
        rw [hkl] at rk
        refine ready_one (i := 14) rfl (by kernel_rfl) (fun K hK => ?_)
        obtain ⟨v5, w5, rn5, o5, g5, -, -⟩ := run_append_own_at (P := Try.prog) _ w.heap.size 23 23 3 i0 (.int .i64 0) 1 8 Try.underlying23 hi hz0 hz1 hz2 rfl (by decide) u9 k _ rk ⟨wr.drew.heap.size, 0, none⟩ 1 1 [.int .i64 x] rfl (one_new wr.drew _ _) one_int (by unfold maxLen; omega) (by omega) BA.size
        refine step_append (s := .tmp 31) (x := .tmp 44) rfl rfl rn5 ?_
        have B5 : Below w.heap.size w w5 := BA.grown g5 BA.size (fun g hg => (World.ownsRow.lt rk g hg).1)
        have HF5 : Hid (AppRel w (calL (N : Int) a b p) (k + 1) v5 w5) := Lib.hid ⟨by
          rw [List.take_add_one, HS.out]
          show w5.ownsRow w.heap.size 3 1 v5 _ _
          rw [List.length_append, hkl, List.map_append]
          exact o5, B5⟩
        refine hK.out _ w5 trivial (fun hHeld => ?_)
        clear hK K rk o5 g5 rn5 hkl
        try simp only [Act.put, List.setIfInBounds_toArray, List.set_cons_zero, List.set_cons_succ]
        refine take_in (i := 15) (v := ?_) rfl (by kernel_rfl) (fun _ _ _ h => h) rfl ?_ hHeld ?_
        rotate_left
        · intro w hSw; go_simp; all_goals with_reducible rfl
        try simp only [Act.put, List.setIfInBounds_toArray, List.set_cons_zero, List.set_cons_succ]
        refine wpAnyH_done (by kernel_rfl) ?_ _
        clear BA BD B5
        go_wp2_with fail
        go_roundw
        case rel => exact ⟨k + 1, by go_num, by omega, HF5⟩
        case measure => simp [intOf]; omega
      · have hge : (N : Int) ≤ (k : Int) := by omega
        obtain ⟨o1, b1'⟩ := HF.out.all (by rw [HZ.out]; omega)
        have B1 := Lib.hid b1'
        have O1 := Lib.hid o1
        clear b1' o1
        go_wp2_with fail
        go_ret
        exact ⟨_, rfl, by rw [calR_yes H.out]; exact O1.out, B1.out⟩
  · have H := Lib.hid h
    clear hi hz0 hz1 hz2
    have hcs : n ≤ 0 ∨ (0 < n ∧ (evB n a = false ∨ (evB n a = true ∧ (evB n b = false ∨ (evB n b = true ∧ inB p 0 6 = false))))) := by
      by_cases hn : n ≤ 0
      · exact .inl hn
      · refine .inr ⟨by omega, ?_⟩
        rw [calB] at h
        cases h1 : evB n a with
        | false => exact .inl rfl
        | true =>
          cases h2 : evB n b with
          | false => exact .inr ⟨rfl, .inl rfl⟩
          | true => exact .inr ⟨rfl, .inr ⟨rfl, by rw [h1, h2] at h; exact h⟩⟩
    have HC := Lib.hid hcs
    clear h hcs
    go_enter Try.func21, Try.ntmps21
    go_wp2_with fail
    go_loopw [9, 10] (fun q i wr => i = .int .i64 0 ∧ q = .slice (some ⟨w.heap.size, 0, none⟩) 0 0 ∧ Hid (AppRel w (calL n a b p) 0 q wr)) (fun _ i _ => 0)
    case atStart => exact ⟨rfl, rfl, H0⟩
    case round =>
      obtain ⟨rfl, rfl, HF⟩ := hrel
      clear H0
      have HR : Hid (∀ wq, wq = wr → NewInts (calR n a b p) w (.returned (.slice (some ⟨w.heap.size, 0, none⟩) 0 0)) wq) := Lib.hid (by rintro wq rfl; exact ⟨_, rfl, by rw [calR_no H.out]; exact HF.out.1, HF.out.2⟩)
      rcases HC.out with hn | ⟨hn, h1 | ⟨h1, h2 | ⟨h2, h3⟩⟩⟩
      · go_wp2_with fail
        go_ret
        exact HR.out _ rfl
      · go_wp2_with fail
        refine (specEventOk_any _ _ _).mono ?_
        rintro r w' ⟨rfl, rfl⟩
        rw [h1]
        go_wp2_with fail
        go_ret
        exact HR.out _ rfl
      · go_wp2_with fail
        refine (specEventOk_any _ _ _).mono ?_
        rintro r w' ⟨rfl, rfl⟩
        rw [h1]
        go_wp2_with fail
        refine (specEventOk_any _ _ _).mono ?_
        rintro r w' ⟨rfl, rfl⟩
        rw [h2]
        go_wp2_with fail
        go_ret
        exact HR.out _ rfl
      · go_wp2_with fail
        refine (specEventOk_any _ _ _).mono ?_
        rintro r w' ⟨rfl, rfl⟩
        rw [h1]
        go_wp2_with fail
        refine (specEventOk_any _ _ _).mono ?_
        rintro r w' ⟨rfl, rfl⟩
        rw [h2]
        go_wp2_with fail
        refine (l1In_any _ _ _ _).mono ?_
        rintro r w' ⟨rfl, rfl⟩
        rw [h3]
        go_wp2_with fail
        go_ret
        exact HR.out _ rfl

end Go.Proofs.Ytghmgnhiglmifaa
