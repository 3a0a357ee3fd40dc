/- Contracts of MixedMeasure: the program's (measuresOk, wholeParts). Conditions: rows that read as lists. -/
import Derived.Test.YtnkgnhnggjoglaaMh
namespace Go.Proofs.Ytnkgnhnggjoglaa
open Go.RowKit
set_option linter.unusedVariables false

/-- no rest is left -/
def divB (s : List Int) (d : Int) : Bool := s.all (fun x => x % d == 0)

def quoL (s : List Int) (d : Int) : List Int := s.map (fun x => x / d)

def partsR (s : List Int) (d : Int) : List Int := if divB s d = true then quoL s d else []

theorem div_no {s : List Int} {d : Int} (h : divB s d = false) : partsR s d = [] := by rw [partsR, h]; rfl

theorem div_yes {s : List Int} {d : Int} (h : divB s d = true) : partsR s d = quoL s d := by rw [partsR, if_pos h]

theorem div_iff (s : List Int) (d : Int) : divB s d = true ↔ ∀ x ∈ s, x % d = 0 := by simp [divB]

theorem sum_even (a b : List Int) (h : a.length = b.length) : divB (sumL a b) 2 = evenB a b := by
  induction a generalizing b with
  | nil => cases b <;> rfl
  | cons x a ih =>
    cases b with
    | nil => simp at h
    | cons y b => rw [evenB, ← ih b (by simpa using h)]; rfl

theorem sum_half (a b : List Int) : quoL (sumL a b) 2 = mixL a b := by
  induction a generalizing b with
  | nil => cases b <;> rfl
  | cons x a ih =>
    cases b with
    | nil => rfl
    | cons y b => rw [mixL, ← ih b]; rfl

theorem sumL_le {a b : List Int} (ha : ∀ x ∈ a, 0 ≤ x ∧ x ≤ 36) (hb : ∀ x ∈ b, 0 ≤ x ∧ x ≤ 36) : ∀ x ∈ sumL a b, 0 ≤ x ∧ x ≤ 1000 := by
  induction a generalizing b with
  | nil => intro x hx; cases b <;> simp [sumL] at hx
  | cons u a ih =>
    cases b with
    | nil => intro x hx; simp [sumL] at hx
    | cons v b =>
      intro x hx
      rw [sumL, List.mem_cons] at hx
      rcases hx with rfl | hx
      · have := ha u List.mem_cons_self
        have := hb v List.mem_cons_self
        omega
      · exact ih (fun y hy => ha y (List.mem_cons_of_mem _ hy)) (fun y hy => hb y (List.mem_cons_of_mem _ hy)) x hx

theorem take_mem4 {P : Int → Prop} {s : List Int} {k : Nat} {x : Int} (h : s[k]? = some x) (ih : ∀ y ∈ s.take k, P y) (hx : P x) : ∀ y ∈ s.take (k + 1), P y := by
  intro y hy
  rw [List.take_add_one, h, Option.toList_some, List.mem_append, List.mem_singleton] at hy
  rcases hy with hy | rfl
  · exact ih y hy
  · exact hx

theorem small3_mea {xs : List Int} (h : meaB xs = true) : Small3 xs := ⟨(grs_of h).2, fun k x hx => by have := (grs_of h).1 x (List.mem_of_getElem? hx); omega⟩

set_option maxHeartbeats 2000000 in
theorem wholeParts_any (w : World) (v : Value) (s : List Int) (d : Int) (hv : IRd w v s) (h4 : s.length ≤ 4) (d1 : 1 ≤ d) (d2 : d ≤ 36) (hs : ∀ x ∈ s, 0 ≤ x ∧ x ≤ 1000) :
    Calls Try.prog 67 #[v, .int .i64 d] w (RowOk w.heap.size (partsR s d) (divB s d) w) := by
  obtain ⟨A, c, rfl, hlc, hm, -⟩ := id hv
  have hgz : ¬ (d = 0) := by omega
  have HV : Hid (∀ wr, Below w.heap.size w wr → IRd wr (.slice A s.length c) s) := Lib.hid (fun wr h => hv.keep (SameAt.of_below h))
  have HG := Lib.hid hs
  have HZ : Hid ((quoL s d).length = s.length) := Lib.hid (by simp [quoL])
  clear hs hv
  obtain ⟨i0, hi, hz0, hz1, hz2⟩ := info_parts Try_intinfo
  go_enter Try.func67, Try.ntmps67
  go_wp2_with (at_make; refine wpList_make_full _ rfl _ _ 23 rfl w.heap.size 3 i0 (.int .i64 0) 1 Try.underlying23 hi hz0 hz1 .i64 .i64 _ _ s.length rfl rfl rfl rfl ?b2 ?b3 (Nat.le_refl _) ?_)
  case b2 => rw [hz2]; omega
  case b3 => unfold maxLen; omega
  intro w0 hown0 hgrow0
  have H0 : Hid (FillRel w (quoL s d) s.length 0 w0) := Lib.hid ⟨by rw [copied_zero, HZ.out]; simpa [toList_madeCells_one, Value.cells] using hown0, (Below.refl _ _).grown hgrow0 (Nat.le_refl _) (fun k hk => by cases hk)⟩
  clear hown0 hgrow0 hi hz0 hz1 hz2
  go_wp2_with fail
  go_loopw [14] (fun i wr => ∃ k : Nat, i = .int .i64 k ∧ k ≤ s.length ∧ Hid (FillRel w (quoL s d) s.length k wr) ∧ Hid (∀ x ∈ s.take k, x % d = 0)) (fun i _ => s.length - (intOf i).toNat)
  case atStart => exact ⟨0, rfl, Nat.zero_le _, H0, Lib.hid (fun x hx => by simp at hx)⟩
  case round =>
    obtain ⟨k, rfl, hk, H, HD⟩ := hrel
    clear H0
    by_cases hlt : k < s.length
    · obtain ⟨b, off, x, rfl, -, hx, hcx⟩ := (HV.out wr H.out.2).at_ hlt
      obtain ⟨x1, x2⟩ := HG.out x (List.mem_of_getElem? hx)
      have hfz := H.out.1.frozenAt k
      obtain ⟨old, hold⟩ := some_cell H.out.1 (k := k) (by omega)
      obtain ⟨r, hr⟩ : ∃ r, x % d = r := ⟨_, rfl⟩
      obtain ⟨q, hq⟩ : ∃ q, x / d = q := ⟨_, rfl⟩
      have hr1 : x.tmod d = r := by rw [Int.tmod_eq_emod_of_nonneg x1]; exact hr
      have hq1 : x.tdiv d = q := by rw [Int.tdiv_eq_ediv_of_nonneg x1]; exact hq
      have hqb : 0 ≤ q ∧ q ≤ x := by rw [← hq]; exact ⟨Int.ediv_nonneg x1 (by omega), Int.ediv_le_self _ x1⟩
      have hrb : 0 ≤ r ∧ r < d := by rw [← hr]; exact ⟨Int.emod_nonneg _ hgz, Int.emod_lt_of_pos _ (by omega)⟩
      have hwq : IntKind.i64.wrap q = q := IntWalk.i64_in _ (by omega)
      have hwq2 : wrap64 q = q := IntWalk.wrap64_in _ (by omega)
      have hwr : IntKind.i64.wrap r = r := IntWalk.i64_in _ (by omega)
      have hwr2 : wrap64 r = r := IntWalk.wrap64_in _ (by omega)
      by_cases hr0 : r = 0
      · subst hr0
        have HS : Hid ((quoL s d)[k]? = some q) := Lib.hid (by rw [quoL, List.getElem?_map, hx, Option.map_some, hq])
        have HD2 := Lib.hid (take_mem4 (P := fun x => x % d = 0) hx HD.out hr)
        clear hx hr hq hqb hrb
        go_wp2_with fail
        go_roundw
        case rel => exact ⟨k + 1, by go_num, by omega, (show Hid _ from H.out.step HS.out), HD2⟩
        case measure => simp [intOf]; omega
      · have hr0' : (r != 0) = true := by simpa using hr0
        have HN : Hid (divB s d = false) := Lib.hid (by
          rw [← Bool.not_eq_true, div_iff]
          exact fun h => hr0 (hr.symm.trans (h x (List.mem_of_getElem? hx))))
        clear hx hr hq hqb hrb
        go_wp2_with fail
        go_ret2
        exact rowOk_ret HN.out (div_no HN.out) (nil_own _ _) H.out.2
    · have HN : Hid (divB s d = true) := Lib.hid ((div_iff s d).2 (by have := HD.out; rwa [List.take_of_length_le (by omega)] at this))
      go_wp2_with fail
      go_ret2
      obtain ⟨h1, h2⟩ := H.out.all HZ.out (by omega)
      exact rowOk_ret HN.out (div_yes HN.out) h1 h2

set_option maxHeartbeats 2000000 in
theorem measuresOk_any (w : World) (v u : Value) (a b : List Int) (hv : IRd w v a) (hu : IRd w u b) :
    Calls Try.prog 62 #[v, u] w fun r w' => r = .returned (.bool (meaB a && meaB b && decide (a.length = b.length))) ∧ w = w' := by
  obtain ⟨A, c, rfl, hl, hm, -⟩ := id hv
  obtain ⟨A', c', rfl, hl', hm', -⟩ := id hu
  have HV := Lib.hid hv
  have HU := Lib.hid hu
  clear hv hu
  rcases Bool.eq_false_or_eq_true (meaB a) with h1 | h1
  · rcases Bool.eq_false_or_eq_true (meaB b) with h2 | h2
    · rcases Bool.eq_false_or_eq_true ((a.length : Int) == (b.length : Int)) with h3 | h3
      · have HR : Hid ((meaB a && meaB b && decide (a.length = b.length)) = true) := Lib.hid (by rw [h1, h2, decide_eq_true (show a.length = b.length by simp at h3; omega)]; rfl)
        go_enter Try.func62, Try.ntmps62
        go_wp2_with fail
        refine (implMeasureOk_any _ _ _ HV.out).mono ?_
        rintro e w' ⟨rfl, rfl⟩
        rw [h1]
        go_wp2_with fail
        refine (implMeasureOk_any _ _ _ HU.out).mono ?_
        rintro e w' ⟨rfl, rfl⟩
        rw [h2]
        go_wp2_with fail
        go_ret
        exact ⟨ret_bool HR.out.symm, rfl⟩
      · have HR : Hid ((meaB a && meaB b && decide (a.length = b.length)) = false) := Lib.hid (by rw [h1, h2, decide_eq_false (show ¬ (a.length = b.length) by simp at h3; omega)]; rfl)
        go_enter Try.func62, Try.ntmps62
        go_wp2_with fail
        refine (implMeasureOk_any _ _ _ HV.out).mono ?_
        rintro e w' ⟨rfl, rfl⟩
        rw [h1]
        go_wp2_with fail
        refine (implMeasureOk_any _ _ _ HU.out).mono ?_
        rintro e w' ⟨rfl, rfl⟩
        rw [h2]
        go_wp2_with fail
        go_ret
        exact ⟨ret_bool HR.out.symm, rfl⟩
    · have HR : Hid ((meaB a && meaB b && decide (a.length = b.length)) = false) := Lib.hid (by rw [h1, h2]; rfl)
      go_enter Try.func62, Try.ntmps62
      go_wp2_with fail
      refine (implMeasureOk_any _ _ _ HV.out).mono ?_
      rintro e w' ⟨rfl, rfl⟩
      rw [h1]
      go_wp2_with fail
      refine (implMeasureOk_any _ _ _ HU.out).mono ?_
      rintro e w' ⟨rfl, rfl⟩
      rw [h2]
      go_wp2_with fail
      go_ret
      exact ⟨ret_bool HR.out.symm, rfl⟩
  · have HR : Hid ((meaB a && meaB b && decide (a.length = b.length)) = false) := Lib.hid (by rw [h1]; rfl)
    go_enter Try.func62, Try.ntmps62
    go_wp2_with fail
    refine (implMeasureOk_any _ _ _ HV.out).mono ?_
    rintro e w' ⟨rfl, rfl⟩
    rw [h1]
    go_wp2_with fail
    go_ret
    exact ⟨ret_bool HR.out.symm, rfl⟩

theorem mix_of_two {a b : List Int} (h : (meaB a && meaB b && decide (a.length = b.length)) = false) : mixB a b = false := by rw [mixB, h]; rfl

set_option maxHeartbeats 4000000 in
theorem implMixedMeasure_any (w : World) (v u : Value) (a b : List Int) (hv : IRd w v a) (hu : IRd w u b) :
    Calls Try.prog 28 #[v, u] w (RowOk w.heap.size (mixR a b) (mixB a b) w) := by
  have HV := Lib.hid hv
  have HU := Lib.hid hu
  clear hv hu
  obtain ⟨t, ht⟩ : ∃ t, (meaB a && meaB b && decide (a.length = b.length)) = t := ⟨_, rfl⟩
  cases t
  · have HN := Lib.hid (mix_of_two ht)
    have HT := Lib.hid ht
    clear ht
    go_enter Try.func28, Try.ntmps28
    go_wp2_with fail
    refine (measuresOk_any _ _ _ _ _ HV.out HU.out).mono ?_
    rintro e w' ⟨rfl, rfl⟩
    rw [HT.out]
    go_wp2_with fail
    go_ret2
    exact rowOk_ret HN.out (mix_no HN.out) (nil_own _ _) (Below.refl _ _)
  · have HT := Lib.hid ht
    simp only [Bool.and_eq_true, decide_eq_true_eq] at ht
    obtain ⟨⟨h1, h2⟩, h3⟩ := ht
    have HB : Hid (mixB a b = divB (sumL a b) 2) := Lib.hid (by rw [mix_is h1 h2 h3, sum_even a b h3])
    have HR : Hid (mixR a b = partsR (sumL a b) 2) := Lib.hid (by rw [mixR, partsR, sum_half, HB.out])
    have HS1 := Lib.hid (small3_mea h1)
    have HS2 := Lib.hid (small3_mea h2)
    have HL := Lib.hid h3
    have H4 : Hid ((sumL a b).length ≤ 4) := Lib.hid (by rw [sumL_len a b h3]; exact (grs_of h1).2)
    have HLE := Lib.hid (sumL_le (grs_of h1).1 (grs_of h2).1)
    clear h1 h2 h3
    go_enter Try.func28, Try.ntmps28
    go_wp2_with fail
    refine (measuresOk_any _ _ _ _ _ HV.out HU.out).mono ?_
    rintro e w' ⟨rfl, rfl⟩
    rw [HT.out]
    go_wp2_with fail
    refine (addRows_any _ _ _ _ _ HV.out HU.out HL.out HS1.out HS2.out).mono ?_
    rintro e w1 ⟨v1, rfl, o1, b1⟩
    have B1 := Lib.hid b1
    clear b1
    go_wp2_with fail
    refine (wholeParts_any _ _ _ 2 o1.rd H4.out (by omega) (by omega) HLE.out).mono ?_
    rintro e w2 ⟨v2, rfl, o2, b2⟩
    have O2 := Lib.hid (o2.base B1.out.size)
    have B2 := Lib.hid (below_step B1.out b2 B1.out.size)
    clear o1 o2 b2
    go_wp2_with fail
    go_ret2
    exact rowOk_ret HB.out HR.out O2.out B2.out

end Go.Proofs.Ytnkgnhnggjoglaa
