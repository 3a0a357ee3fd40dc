/- The walk of the law of PartsOf. Conditions: a row of bytes that came in; the tables of package math/bits are laid. -/
import Derived.Test.YtnleljofoljdkaaDoorDraw1
import Derived.Test.YtnleljofoljdkaaDoorTab
import Derived.BigQuiet
namespace Go.Proofs.YtnleljofoljdkaaDoor
open Go.RowKit Go.BigFrame
set_option linter.unusedVariables false

def sumF (l : List Nat) (f : Nat → Bool) (k : Nat) : Nat := ((l.take k).filter f).foldl (· + ·) 0

theorem foldl_add (l : List Nat) (a : Nat) : l.foldl (· + ·) a = a + l.foldl (· + ·) 0 := by
  induction l generalizing a with
  | nil => simp
  | cons x l ih => simp only [List.foldl_cons]; rw [ih (a + x), ih (0 + x)]; omega

theorem sumF_succ {l : List Nat} {f : Nat → Bool} {k x : Nat} (h : l[k]? = some x) : sumF l f (k + 1) = sumF l f k + if f x = true then x else 0 := by
  unfold sumF
  rw [List.take_add_one, h, Option.toList_some, List.filter_append, List.foldl_append]
  by_cases hf : f x = true
  · rw [if_pos hf]; simp [hf]
  · rw [if_neg hf]; simp [hf]

theorem sumF_le {l : List Nat} {f : Nat → Bool} (h : ∀ x ∈ l, x ≤ 15) (k : Nat) : sumF l f k ≤ 15 * k := by
  induction k with
  | zero => simp [sumF]
  | succ k ih =>
    cases hx : l[k]? with
    | none =>
      have : sumF l f (k + 1) = sumF l f k := by
        unfold sumF
        rw [List.take_add_one, hx]; simp
      omega
    | some x =>
      rw [sumF_succ hx]
      have := h x (List.mem_of_getElem? hx)
      split <;> omega

theorem sumF_all (l : List Nat) (f : Nat → Bool) {k : Nat} (h : l.length ≤ k) : sumF l f k = (l.filter f).foldl (· + ·) 0 := by
  unfold sumF
  rw [List.take_of_length_le h]

theorem law_facts (K : Nat → Nat) {m : Nat} (h1 : 1 ≤ m) (h4 : m ≤ 4) :
    (1 ≤ (cparts (rep K) m m).length ∧ (cparts (rep K) m m).length ≤ 4) ∧ (∀ x ∈ cparts (rep K) m m, 1 ≤ x ∧ x ≤ 15) ∧
    (∀ k j x y : Nat, (cparts (rep K) m m)[k]? = some x → (cparts (rep K) m m)[j]? = some y → j < k → apB (m : Int) (x : Int) (y : Int) = true) ∧
    sumF (cparts (rep K) m m) (fun _ => true) (cparts (rep K) m m).length = 2 ^ m - 1 := by
  have hmem : ∀ x ∈ cparts (rep K) m m, 1 ≤ x ∧ x ≤ 15 := by
    intro x hx
    unfold cparts at hx
    obtain ⟨a, ha, rfl⟩ := List.mem_map.1 hx
    have ham := List.mem_range.1 (List.mem_filter.1 ha).1
    obtain ⟨q1, q2, -⟩ := step_ins (K := K) h4 ham
    exact ⟨q1, q2⟩
  obtain ⟨c1, c2, c3, hc⟩ := of_rep K
  have ht := law_tab c1 c2 c3 ⟨m, by omega⟩ h1
  unfold lawB at ht
  rw [← cparts_congr hc m m h4 (Nat.le_refl _)] at ht
  simp only [Bool.and_eq_true, decide_eq_true_eq, List.all_eq_true, List.mem_range, beq_iff_eq] at ht
  obtain ⟨⟨⟨t1, t2⟩, t3⟩, t4⟩ := ht
  refine ⟨⟨t1, t2⟩, hmem, fun k j x y hx hy hjk => ?_, ?_⟩
  · have hk : k < (cparts (rep K) m m).length := by
      rcases Nat.lt_or_ge k (cparts (rep K) m m).length with h | h
      · exact h
      · rw [List.getElem?_eq_none h] at hx; cases hx
    have := t4 k hk j hjk
    simpa [List.getD_eq_getElem?_getD, hx, hy] using this
  · rw [sumF_all _ _ (Nat.le_refl _), List.filter_eq_self.2 (fun _ _ => rfl)]
    exact t3

theorem sum_facts (xs : List Int) {m : Nat} (h1 : 1 ≤ m) (h4 : m ≤ 4) {e : Int} (he : e ∈ xs) (hev : evB (m : Int) e = true) :
    ((sumF (cparts (rep (keyN xs)) m m) (fun p => impB (m : Int) (p : Int) e) (cparts (rep (keyN xs)) m m).length : Nat) : Int) = e := by
  obtain ⟨c1, c2, c3, hc⟩ := of_rep (keyN xs)
  obtain ⟨-, -, e0, e1⟩ := (evB_iff _ _).1 hev
  have e15 := (evB_15 hev).2
  obtain ⟨k, rfl⟩ : ∃ k : Nat, e = (k : Int) := ⟨e.toNat, by omega⟩
  have hk : k < 2 ^ m := by
    unfold allI at e1
    rw [Int.toNat_natCast] at e1
    have : ((2 ^ m : Nat) : Int) = 2 ^ m := by simp
    omega
  have ht := sum_tab c1 c2 c3 ⟨m, by omega⟩ ⟨k, by omega⟩ h1 hk
  unfold sumB at ht
  rw [← cparts_congr hc m m h4 (Nat.le_refl _)] at ht
  rw [Bool.or_eq_true] at ht
  rcases ht with ht | ht
  · exfalso
    rw [Bool.not_eq_true', ← Bool.not_eq_true] at ht
    apply ht
    simp only [List.all_eq_true, List.mem_range, Bool.or_eq_true, Bool.not_eq_true', beq_eq_false_iff_ne, beq_iff_eq, ne_eq]
    intro a ha b hb
    by_cases hab : four 0 c1 c2 c3 a = four 0 c1 c2 c3 b
    · right
      rw [← hc a (by omega), ← hc b (by omega)] at hab
      exact (keyN_eq xs a b).1 ((rep_iff _ a b).2 hab) _ he
    · exact .inl hab
  · rw [beq_iff_eq] at ht
    rw [sumF_all _ _ (Nat.le_refl _)]
    exact congrArg _ ht

theorem implApartOk_q (w a b : Int) (W : World) (n : Nat) :
    Calls Tryd.prog 10 #[.int .i64 w, .int .i64 a, .int .i64 b] (W.drewN n) fun r W' => r = .returned (.bool (apB w a b)) ∧ W' = W.drewN n :=
  (implApartOk_any w a b _).mono fun _ _ ⟨h1, h2⟩ => ⟨h1, h2.symm⟩

theorem implImpliesOk_q (w a b : Int) (W : World) (n : Nat) :
    Calls Tryd.prog 11 #[.int .i64 w, .int .i64 a, .int .i64 b] (W.drewN n) fun r W' => r = .returned (.bool (impB w a b)) ∧ W' = W.drewN n :=
  (implImpliesOk_any w a b _).mono fun _ _ ⟨h1, h2⟩ => ⟨h1, h2.symm⟩

theorem implImpliesOk_v {w a b : Int} {t : Bool} (h : impB w a b = t) (W : World) (n : Nat) :
    Calls Tryd.prog 11 #[.int .i64 w, .int .i64 a, .int .i64 b] (W.drewN n) fun r W' => r = .returned (.bool t) ∧ W' = W.drewN n := by
  subst h
  exact implImpliesOk_q w a b W n

theorem ird_drewN {W wr : World} {v : Value} {xs : List Int} {q : Nat} (h : IRd W v xs) (e : wr = W.drewN q) : IRd wr v xs := by
  subst e; exact h

theorem drewN_on {W wr : World} {q : Nat} (e : wr = W.drewN q) (n : Nat) : wr.drewN n = W.drewN (q + n) := by
  subst e; exact World.drewN_drewN _ _ _

set_option maxHeartbeats 8000000 in
theorem FnPartsOf_walk (a0 : Option Addr) (len0 cap0 : Nat) (z0 : List Int) (w : World) (w0 : IsRowC .u8 w a0 len0 cap0 z0) (ht : Tab w) :
    Calls Tryd.prog 3 #[.slice a0 len0 cap0] w fun e w' => e = .returned (.bool true) ∧ Below w.heap.size w w' := by
  by_cases hlen : 1048576 < len0
  · clear w0
    go_enter Tryd.func3, Tryd.ntmps3
    go_wp2
    go_ret
    exact ⟨rfl, Below.refl _ _⟩
  · have hlen' : decide (1048576 < len0) = false := by simpa using hlen
    have HT := Lib.hid ht
    have hts := lt_of_tab ht
    clear ht
    go_enter Tryd.func3, Tryd.ntmps3
    go_wp2_with fail
    refine (drawPartsOf_any _ _ _ _ _ w0).mono ?_
    rintro e w1 ⟨n, v, xs, rfl, hv, hx10, -, -, b1⟩
    have z1 := b1.size
    clear hlen hlen' w0
    go_wp2_with fail
    refine (implPartsOf_any w1 n v xs hv (HT.out.below b1 hts)).mono ?_
    rintro e w2 ⟨vp, rfl, op, b2⟩
    have B2 := below_step b1 b2 z1
    have hv2 := hv.keep (SameAt.of_below b2)
    have z2 := b2.size
    clear b1 b2 hv
    go_wp2_with fail
    refine (specPartsOf_any w2 n v xs hv2).mono ?_
    rintro e w3 ⟨vq, rfl, oq, b3⟩
    have B3 := below_step B2 b3 (by omega)
    have hv3 := hv2.keep (SameAt.of_below b3)
    have op3 := op.keep (SameAt.of_below b3)
    clear B2 b3 hv2 op
    go_wp2_with fail
    refine (sameInts_any w3 vp vq _ _ op3.rd oq.rd).mono ?_
    rintro e w' ⟨q4, rfl, rfl⟩
    rw [decide_self]
    have B4 : Below w.heap.size w (w3.drewN q4) := below_drewN B3 q4
    have hp4 : IRd (w3.drewN q4) vp _ := op3.rd
    have hv4 : IRd (w3.drewN q4) v _ := hv3
    clear B3 hv3 op3 oq
    generalize w3.drewN q4 = W at *
    obtain ⟨A, c, rfl, hl, hm, -⟩ := id hp4
    obtain ⟨A', c', rfl, hl', hm', -⟩ := id hv4
    have HP := Lib.hid hp4
    have HV := Lib.hid hv4
    have HB := Lib.hid B4
    clear hp4 hv4 B4
    rcases Bool.eq_false_or_eq_true (okB n xs) with hok | hok
    · have hparts : partsI n xs = natI (cparts (rep (keyN xs)) n.toNat n.toNat) := by rw [partsI, hok]; rfl
      have hok' := hok
      unfold okB at hok'
      simp only [Bool.and_eq_true, decide_eq_true_eq, List.all_eq_true] at hok'
      obtain ⟨⟨hwk, -⟩, hall⟩ := hok'
      obtain ⟨hn1, hn2⟩ := (wokB_iff n).1 hwk
      obtain ⟨m, rfl⟩ : ∃ m : Nat, n = (m : Int) := ⟨n.toNat, by omega⟩
      rw [Int.toNat_natCast] at hparts
      generalize partsI (m : Int) xs = L at *
      subst hparts
      rw [natI_len] at HP hl ⊢
      have hm1 : 1 ≤ m := by omega
      have hm4 : m ≤ 4 := by omega
      obtain ⟨⟨l1, l4⟩, hmem, hap, hsum⟩ := law_facts (keyN xs) hm1 hm4
      have hsums : Hid (∀ e ∈ xs, ((sumF (cparts (rep (keyN xs)) m m) (fun p => impB (m : Int) (p : Int) e) (cparts (rep (keyN xs)) m m).length : Nat) : Int) = e) := Lib.hid fun e he => sum_facts xs hm1 hm4 he (hall e he)
      generalize cparts (rep (keyN xs)) m m = l at *
      have HMEM := Lib.hid hmem
      have HAP := Lib.hid hap
      have HSUM := Lib.hid hsum
      have HALL := Lib.hid hall
      clear hmem hap hsum hall hok hwk
      have hl0 : ((l.length : Int) == 0) = false := by rw [beq_eq_false_iff_ne]; omega
      go_wp2_with fail
      clear hl0
      go_loopw [6, 7] (fun st sk wr => ∃ (k t q : Nat), sk = .int .i64 k ∧ k ≤ l.length ∧ st = .int .i64 (t : Int) ∧ t ≤ 60 ∧ wr = W.drewN q ∧ Hid (t = sumF l (fun _ => true) k)) (fun _ sk _ => l.length - (intOf sk).toNat)
      case atStart => exact ⟨0, 0, 0, rfl, Nat.zero_le _, rfl, by omega, rfl, Lib.hid rfl⟩
      case round =>
        obtain ⟨k, t, q, rfl, hk, rfl, ht, rfl, HS⟩ := hrel
        by_cases hkl : k < l.length
        · have hkl' : (k : Int) < (l.length : Int) := by omega
          obtain ⟨b, off, x, rfl, -, hx, hcx⟩ := HP.out.at_ hkl
          obtain ⟨y, hy, rfl⟩ := natI_at hx
          have HY := Lib.hid hy
          have HX := Lib.hid hx
          have hy2 := HMEM.out y (List.mem_of_getElem? hy)
          have HST := Lib.hid (sumF_succ (f := fun _ => true) hy)
          have hle := sumF_le (l := l) (f := fun _ => true) (fun x hx => (HMEM.out x hx).2) (k + 1)
          have hle2 : t + y ≤ 60 := by
            have h1 := HST.out
            rw [if_pos rfl, ← HS.out] at h1
            omega
          clear hx hy hle
          go_wp2_with fail
          go_loopw [8] (fun sj wr => ∃ (j q : Nat), sj = .int .i64 j ∧ j ≤ k ∧ wr = W.drewN q) (fun sj _ => k - (intOf sj).toNat)
          case atStart => exact ⟨0, q, rfl, Nat.zero_le _, rfl⟩
          case round =>
            obtain ⟨j, q, rfl, hj, hwr⟩ := hrel
            have HW := Lib.hid hwr
            clear hwr
            have HPR := Lib.hid (ird_drewN HP.out HW.out)
            obtain ⟨b2, off2, x2, e2, -, hx2, hcx2⟩ := HPR.out.at_ hkl
            obtain rfl : x2 = (y : Int) := Option.some.inj (hx2.symm.trans HX.out)
            injection e2 with e2
            injection e2 with eb2 eo2 _
            subst eb2 eo2
            clear hx2
            by_cases hjk : j < k
            · have hjk' : (j : Int) < (k : Int) := by omega
              obtain ⟨b', off', x', e', -, hx', hcx'⟩ := HPR.out.at_ (k := j) (by omega)
              obtain ⟨y', hy', rfl⟩ := natI_at hx'
              injection e' with e'
              injection e' with eb eo _
              subst eb eo
              have hA := HAP.out k j y y' HY.out hy' hjk
              have hj1 : (j : Int) < (l.length : Int) := by omega
              clear hx' hy'
              go_wp2_with fail
              go_quiet ((go_at_call 10; exact Calls.quiet_of_same (implApartOk_q _ _ _ _ _)))
              go_wp2_with fail
              go_roundw
              case rel => exact ⟨j + 1, _, by go_num, by omega, drewN_on HW.out _⟩
              case measure => simp [intOf]; omega
            · have hjk' : (k : Int) ≤ (j : Int) := by omega
              go_wp2_with fail
              go_roundw
              case rel => exact ⟨k + 1, t + y, _, by go_num, by omega, by go_num, hle2, HW.out, Lib.hid (by have h1 := HST.out; simp only [if_true] at h1; rw [h1, HS.out])⟩
              case measure => simp [intOf]; omega
        · have hkl' : (l.length : Int) ≤ (k : Int) := by omega
          have HT2 : Hid (t = 2 ^ m - 1) := Lib.hid (by rw [HS.out, show k = l.length from by omega]; exact HSUM.out)
          have hm1' : (1 : Int) ≤ (m : Int) := by omega
          have hm4' : (m : Int) ≤ 4 := by omega
          go_wp2_with fail
          go_loopw [9] (fun sk wr => ∃ (k q : Nat), sk = .int .i64 k ∧ k ≤ xs.length ∧ wr = W.drewN q) (fun sk _ => xs.length - (intOf sk).toNat)
          case atStart => exact ⟨0, q, rfl, Nat.zero_le _, rfl⟩
          case round =>
            obtain ⟨i, q, rfl, hi, hwr⟩ := hrel
            have HW0 := Lib.hid hwr
            clear hwr
            by_cases hix : i < xs.length
            · have hix' : (i : Int) < (xs.length : Int) := by omega
              obtain ⟨b, off, e, rfl, -, he, hce⟩ := (ird_drewN HV.out HW0.out).at_ hix
              have HE := Lib.hid he
              have HSE := Lib.hid (hsums.out e (List.mem_of_getElem? he))
              clear he
              go_wp2_with fail
              go_loopw [10, 11] (fun st sj wr => ∃ (j t q : Nat), sj = .int .i64 j ∧ j ≤ l.length ∧ st = .int .i64 (t : Int) ∧ t ≤ 60 ∧ wr = W.drewN q ∧ Hid (t = sumF l (fun p => impB (m : Int) (p : Int) e) j)) (fun _ sj _ => l.length - (intOf sj).toNat)
              case atStart => exact ⟨0, 0, q, rfl, Nat.zero_le _, rfl, by omega, HW0.out, Lib.hid rfl⟩
              case round =>
                obtain ⟨j, t2, q, rfl, hj, rfl, ht2, hwr, HS2⟩ := hrel
                have HW := Lib.hid hwr
                clear hwr
                obtain ⟨b3, off3, e3, eA, -, he3, hce3⟩ := (ird_drewN HV.out HW.out).at_ hix
                obtain rfl : e3 = e := Option.some.inj (he3.symm.trans HE.out)
                injection eA with eA
                injection eA with eb3 eo3 _
                subst eb3 eo3
                clear he3
                by_cases hjl : j < l.length
                · have hjl' : (j : Int) < (l.length : Int) := by omega
                  obtain ⟨b2, off2, x2, rfl, -, hx2, hcx2⟩ := (ird_drewN HP.out HW.out).at_ hjl
                  obtain ⟨y, hy, rfl⟩ := natI_at hx2
                  have HST := Lib.hid (sumF_succ (f := fun p => impB (m : Int) (p : Int) e3) hy)
                  have hle := sumF_le (l := l) (f := fun p => impB (m : Int) (p : Int) e3) (fun x hx => (HMEM.out x hx).2) (j + 1)
                  clear hx2 hy
                  rcases Bool.eq_false_or_eq_true (impB (m : Int) (y : Int) e3) with him | him
                  · have hle2 : t2 + y ≤ 60 := by
                      have h1 := HST.out
                      simp only [him, if_true] at h1
                      have h2 := HS2.out
                      omega
                    clear hle
                    go_wp2_with fail
                    go_quiet ((go_at_call 11; exact Calls.quiet_of_same (implImpliesOk_v him _ _)))
                    go_wp2_with fail
                    go_roundw
                    case rel => exact ⟨j + 1, t2 + y, _, by go_num, by omega, by go_num, hle2, drewN_on HW.out _, Lib.hid (by have h1 := HST.out; simp only [him, if_true] at h1; rw [h1, HS2.out])⟩
                    case measure => simp [intOf]; omega
                  · clear hle
                    go_wp2_with fail
                    go_quiet ((go_at_call 11; exact Calls.quiet_of_same (implImpliesOk_v him _ _)))
                    go_wp2_with fail
                    go_roundw
                    case rel => exact ⟨j + 1, t2, _, by go_num, by omega, rfl, ht2, drewN_on HW.out _, Lib.hid (by have h1 := HST.out; simp only [him] at h1; rw [h1, HS2.out]; simp)⟩
                    case measure => simp [intOf]; omega
                · have hjl' : (l.length : Int) ≤ (j : Int) := by omega
                  have hte : (t2 : Int) = e3 := by rw [HS2.out, show j = l.length from by omega]; exact HSE.out
                  subst hte
                  go_wp2_with fail
                  go_roundw
                  case rel => exact ⟨i + 1, _, by go_num, by omega, HW.out⟩
                  case measure => simp [intOf]; omega
            · have hix' : (xs.length : Int) ≤ (i : Int) := by omega
              have hq : (fun W' => Below w.heap.size w W') wr := by rw [HW0.out]; exact below_drewN HB.out q
              obtain rfl | rfl | rfl | rfl : m = 1 ∨ m = 2 ∨ m = 3 ∨ m = 4 := by omega
              all_goals
                have htt := HT2.out
                simp at htt
                subst htt
                go_wp2_with fail
                go_ret
                exact ⟨rfl, hq⟩
    · have hparts := partsI_no hok
      generalize partsI n xs = L at *
      subst hparts
      go_wp2_with (go_at_call 9; refine (alive_any _).mono ?_; rintro e w' ⟨rfl, rfl⟩)
      go_ret
      exact ⟨rfl, HB.out⟩

end Go.Proofs.YtnleljofoljdkaaDoor
