/- Contracts of spec's LeastOn, MostOn, FurtherOk, PinnedOk, LeastBrings. Conditions: rows that read as lists. -/
import Derived.Test.YteljcicdibbhdaaMe
import Derived.Test.YteljcicdibbhdaaBo
namespace Go.Proofs.Yteljcicdibbhdaa
open Go.RowKit
set_option linter.unusedVariables false

/-! what is handed back -/

def leastB (n : Int) (qs : List Qt) (e : Int) : Int := if bokB n qs = true ∧ evB n e = true then leastI n.toNat qs e else -1

def mostB (n : Int) (qs : List Qt) (e : Int) : Int := if bokB n qs = true ∧ evB n e = true then mostI n.toNat qs e else -1

def furB (n : Int) (qs : List Qt) (q : Qt) : Bool := bokB n qs && (qokB n q && (lay n.toNat 36).any fun l => fitI (natL l) qs && fitI (natL l) [q])

def pinnedB (n : Int) (qs : List Qt) (e : Int) : Bool := decide (0 ≤ leastB n qs e) && decide (leastB n qs e = mostB n qs e)

def lbV (n : Int) (qs : List Qt) (g : List Int) : Bool := bokB n qs && (gokB g && decide ((g.length : Int) = n))

def lbP (n : Int) (qs : List Qt) (g : List Int) : Int × Bool := if lbV n qs g = true then leastBr n.toNat qs g else (0, false)

theorem leastB_yes {n : Nat} {qs : List Qt} {e : Int} (h : bokB (n : Int) qs = true) (k : evB (n : Int) e = true) : leastB n qs e = leastI n qs e := by rw [leastB, if_pos ⟨h, k⟩, Int.toNat_natCast]

theorem mostB_yes {n : Nat} {qs : List Qt} {e : Int} (h : bokB (n : Int) qs = true) (k : evB (n : Int) e = true) : mostB n qs e = mostI n qs e := by rw [mostB, if_pos ⟨h, k⟩, Int.toNat_natCast]

theorem leastB_no {n : Int} {qs : List Qt} {e : Int} (h : ¬ (bokB n qs = true ∧ evB n e = true)) : leastB n qs e = -1 := by rw [leastB, if_neg h]

theorem mostB_no {n : Int} {qs : List Qt} {e : Int} (h : ¬ (bokB n qs = true ∧ evB n e = true)) : mostB n qs e = -1 := by rw [mostB, if_neg h]

theorem lb_no {n : Int} {qs : List Qt} {g : List Int} (h : lbV n qs g = false) : lbP n qs g = (0, false) := by rw [lbP, h]; rfl

theorem lb_yes {n : Nat} {qs : List Qt} {g : List Int} (h : lbV (n : Int) qs g = true) : lbP n qs g = leastBr n qs g := by rw [lbP, if_pos h, Int.toNat_natCast]

/-! folds over the measures, one by one -/

def foldTo {β : Type} (F : β → List Nat → β) (b : β) (m d : Nat) : β := ((lay m 36).take d).foldl F b

theorem foldTo_zero {β : Type} (F : β → List Nat → β) (b : β) (m : Nat) : foldTo F b m 0 = b := by simp [foldTo]

theorem foldTo_succ {β : Type} (F : β → List Nat → β) (b : β) {m d : Nat} {l : List Nat} (h : (lay m 36)[d]? = some l) : foldTo F b m (d + 1) = F (foldTo F b m d) l := by
  rw [foldTo, foldTo, List.take_add_one, h, List.foldl_append]
  rfl

theorem foldTo_all {β : Type} (F : β → List Nat → β) (b : β) {m d : Nat} (h : (lay m 36).length ≤ d) : foldTo F b m d = (lay m 36).foldl F b := by
  rw [foldTo, List.take_of_length_le h]

theorem leastF_no {qs : List Qt} {f : List Nat → Int} {b : Int} {l : List Nat} (h : fitI (natL l) qs = false) : leastF qs f b l = b := by rw [leastF, h]; rfl

theorem leastF_neg {qs : List Qt} {f : List Nat → Int} {b : Int} {l : List Nat} (h : fitI (natL l) qs = true) (hb : b < 0) : leastF qs f b l = f l := by rw [leastF, h, decide_eq_true hb]; rfl

theorem leastF_less {qs : List Qt} {f : List Nat → Int} {b : Int} {l : List Nat} (h : fitI (natL l) qs = true) (hb : ¬ b < 0) (hf : f l < b) : leastF qs f b l = f l := by rw [leastF, h, decide_eq_false hb, decide_eq_true hf]; rfl

theorem leastF_more {qs : List Qt} {f : List Nat → Int} {b : Int} {l : List Nat} (h : fitI (natL l) qs = true) (hb : ¬ b < 0) (hf : ¬ f l < b) : leastF qs f b l = b := by rw [leastF, h, decide_eq_false hb, decide_eq_false hf]; rfl

theorem mostF_no {qs : List Qt} {f : List Nat → Int} {b : Int} {l : List Nat} (h : fitI (natL l) qs = false) : mostF qs f b l = b := by rw [mostF, h]; rfl

theorem mostF_up {qs : List Qt} {f : List Nat → Int} {b : Int} {l : List Nat} (h : fitI (natL l) qs = true) (hb : b < f l) : mostF qs f b l = f l := by rw [mostF, if_pos h]; omega

theorem mostF_down {qs : List Qt} {f : List Nat → Int} {b : Int} {l : List Nat} (h : fitI (natL l) qs = true) (hb : ¬ b < f l) : mostF qs f b l = b := by rw [mostF, if_pos h]; omega

theorem lbF_no {qs : List Qt} {g : List Int} {s : Int × Bool} {l : List Nat} (h : fitI (natL l) qs = false) : leastBF qs g s l = s := by rw [leastBF, h]; rfl

theorem lbF_first {qs : List Qt} {g : List Int} {x : Int} {l : List Nat} (h : fitI (natL l) qs = true) : leastBF qs g (x, false) l = (brI (natL l) g, true) := by rw [leastBF, h]; rfl

theorem lbF_less {qs : List Qt} {g : List Int} {x : Int} {l : List Nat} (h : fitI (natL l) qs = true) (hf : brI (natL l) g < x) : leastBF qs g (x, true) l = (brI (natL l) g, true) := by rw [leastBF, h, decide_eq_true hf]; rfl

theorem lbF_more {qs : List Qt} {g : List Int} {x : Int} {l : List Nat} (h : fitI (natL l) qs = true) (hf : ¬ brI (natL l) g < x) : leastBF qs g (x, true) l = (x, true) := by rw [leastBF, h, decide_eq_false hf]; rfl

theorem fur_at {n : Nat} {qs : List Qt} {q : Qt} (h : bokB (n : Int) qs = true) (k : qokB (n : Int) q = true) {d : Nat} {l : List Nat} (hd : (lay n 36)[d]? = some l) (h1 : fitI (natL l) qs = true) (h2 : fitI (natL l) [q] = true) : furB n qs q = true := by
  rw [furB, h, k, Int.toNat_natCast, Bool.true_and, Bool.true_and, List.any_eq_true]
  exact ⟨l, List.mem_of_getElem? hd, by rw [h1, h2]; rfl⟩

theorem fur_none {n : Nat} {qs : List Qt} {q : Qt} (h : bokB (n : Int) qs = true) (k : qokB (n : Int) q = true) (hno : ∀ j, j < (lay n 36).length → ∀ x, (lay n 36)[j]? = some x → (fitI (natL x) qs && fitI (natL x) [q]) = false) : furB n qs q = false := by
  rw [furB, h, k, Int.toNat_natCast, Bool.true_and, Bool.true_and, List.any_eq_false]
  intro x hx
  obtain ⟨j, hj, e⟩ := List.getElem_of_mem hx
  have := hno j hj x (by rw [← e]; exact List.getElem?_eq_getElem hj)
  rw [this]; simp

set_option maxHeartbeats 8000000 in
theorem specLeastOn_any (w : World) (n : Int) (v : Value) (qs : List Qt) (e : Int) (hv : QRd w v qs) :
    Calls Try.prog 17 #[.int .i64 n, v, .int .i64 e] w (IntPost (leastB n qs e) w) := by
  have HV := Lib.hid hv
  clear hv
  rcases Bool.eq_false_or_eq_true (bokB n qs) with h | h
  · rcases Bool.eq_false_or_eq_true (evB n e) with k | k
    · have H := Lib.hid h
      have HK := Lib.hid k
      have HQ := Lib.hid (qts_of h)
      have HE := Lib.hid (evB_15 k)
      have hw1 : 1 ≤ n := ((bokB_iff _ _).1 h).1.1
      have hw2 : n ≤ 4 := ((bokB_iff _ _).1 h).1.2
      obtain ⟨m, rfl⟩ : ∃ m : Nat, n = m := ⟨n.toNat, by omega⟩
      have hm1 : 1 ≤ m := by omega
      have hm4 : m ≤ 4 := by omega
      go_enter Try.func17, Try.ntmps17
      go_wp2_with fail
      refine (specBookOk_any _ _ _ _ HV.out).mono ?_
      rintro r w2 ⟨rfl, b2⟩
      rw [h]
      have HB2 := Lib.hid b2
      have HV2 := Lib.hid (HV.out.keep (SameAt.of_below b2))
      clear b2 h
      go_wp2_with fail
      refine (specEventOk_any _ _ _).mono ?_
      rintro r w' ⟨rfl, rfl⟩
      rw [k]
      clear k
      go_wp2_with fail
      refine (l4First_any w2 m 36 hm1 hm4).mono ?_
      rintro r w3 ⟨u, rfl, o3, b3⟩
      have H0 := Lib.hid (WkRel.start hm1 o3 b3)
      clear o3 b3
      obtain ⟨L, hL⟩ : ∃ L, (lay m 36).length = L := ⟨_, rfl⟩
      have HL := Lib.hid hL
      clear hL
      go_wp2_with fail
      go_loopg [7, 9] (L + 1) (fun gk c s wr => ∃ (d : Nat) (t : Bool) (x : Int), gk = L + 1 - d ∧ d ≤ L ∧ s = .bool t ∧ c = .int .i64 x ∧ Hid (x = foldTo (leastF qs fun l => onI (natL l) e) (-1) m d) ∧ Hid (WkRel w2 m 36 u d t wr))
      case atStart => exact ⟨0, true, -1, by omega, Nat.zero_le _, rfl, rfl, Lib.hid (foldTo_zero _ _ _).symm, H0⟩
      case round =>
        obtain ⟨d, t, x, hgk, hd, rfl, rfl, HX, HW⟩ := hrel
        clear H0
        cases t
        · have HF : Hid (leastB (m : Int) qs e = x) := Lib.hid (by
            rw [leastB_yes H.out HK.out, HX.out, foldTo_all _ _ (by obtain ⟨-, l, -, -, h2⟩ := HW.out; rw [h2 rfl]; exact Nat.le_refl _)]; rfl)
          have HB := Lib.hid (below_step HB2.out HW.out.1 HB2.out.size)
          go_wp2_with fail
          go_ret
          exact ⟨ret_int HF.out.symm, HB.out⟩
        · obtain ⟨-, l, ol, hl, -⟩ := id HW.out
          have hl := hl rfl
          have HLL := Lib.hid hl
          have HCS := Lib.hid (foldTo_succ (leastF qs fun l => onI (natL l) e) (-1) hl)
          have hdL : d < L := by rw [← HL.out]; exact (List.getElem?_eq_some_iff.1 hl).1
          obtain ⟨hf1, hf2⟩ := lay_facts hm1 hl
          have HOL := Lib.hid ol
          have HG : Hid (Grs (natL l)) := Lib.hid (grs_of ((mea_lay (natL l)).2 ⟨by rw [natL_len]; omega, l, by rw [natL_len, hf1]; exact List.mem_of_getElem? hl, rfl⟩))
          clear hl ol
          obtain ⟨fb, hfb⟩ : ∃ fb, fitI (natL l) qs = fb := ⟨_, rfl⟩
          obtain ⟨y, hy⟩ : ∃ y, onI (natL l) e = y := ⟨_, rfl⟩
          have HFB := Lib.hid hfb
          have HYB := Lib.hid hy
          clear hfb hy
          go_wp2_with fail
          refine (l4On_any wr u (natL l) e HOL.out.rd HG.out HE.out.1 HE.out.2).mono ?_
          rintro r w4 ⟨rfl, b4⟩
          rw [HYB.out]
          have HW4 := Lib.hid (HW.out.keep b4)
          have HOL4 := Lib.hid (HOL.out.keep (SameAt.of_below b4))
          clear b4
          go_wp2_with fail
          refine (l4Fits_any w4 u v (natL l) qs HOL4.out.rd (HV2.out.keep (SameAt.of_below HW4.out.1)) HG.out HQ.out).mono ?_
          rintro r w6 ⟨rfl, b5⟩
          rw [HFB.out]
          have HW6 := Lib.hid (HW4.out.keep b5)
          have HOL6 := Lib.hid (HOL4.out.keep (SameAt.of_below b5))
          clear b5
          cases fb
          · go_wp2_with fail
            refine (l4Step_any w6 w2.heap.size u l (by omega) (by omega) (by omega) HOL6.out).mono ?_
            intro r w7 hstep
            obtain ⟨t', rfl, hW7⟩ := WkRel.step hm1 hm4 (.inl rfl) HW6.out.1 HLL.out hstep
            have HW7 := Lib.hid hW7
            clear hW7 hstep
            go_wp2_with fail
            go_roundg (L + 1 - (d + 1))
            case measure => omega
            case rel => exact ⟨d + 1, t', _, rfl, by omega, rfl, rfl, Lib.hid (by rw [HCS.out, ← HX.out]; exact (leastF_no HFB.out).symm), HW7⟩
          · by_cases hx : x < 0
            · go_wp2_with fail
              refine (l4Step_any w6 w2.heap.size u l (by omega) (by omega) (by omega) HOL6.out).mono ?_
              intro r w7 hstep
              obtain ⟨t', rfl, hW7⟩ := WkRel.step hm1 hm4 (.inl rfl) HW6.out.1 HLL.out hstep
              have HW7 := Lib.hid hW7
              clear hW7 hstep
              go_wp2_with fail
              go_roundg (L + 1 - (d + 1))
              case measure => omega
              case rel => exact ⟨d + 1, t', _, rfl, by omega, rfl, rfl, Lib.hid (by rw [HCS.out, ← HX.out]; exact ((leastF_neg HFB.out hx).trans HYB.out).symm), HW7⟩
            · by_cases hyx : y < x
              · go_wp2_with fail
                refine (l4Step_any w6 w2.heap.size u l (by omega) (by omega) (by omega) HOL6.out).mono ?_
                intro r w7 hstep
                obtain ⟨t', rfl, hW7⟩ := WkRel.step hm1 hm4 (.inl rfl) HW6.out.1 HLL.out hstep
                have HW7 := Lib.hid hW7
                clear hW7 hstep
                go_wp2_with fail
                go_roundg (L + 1 - (d + 1))
                case measure => omega
                case rel => exact ⟨d + 1, t', _, rfl, by omega, rfl, rfl, Lib.hid (by rw [HCS.out, ← HX.out]; exact ((leastF_less HFB.out (Int.not_lt.2 hx) (HYB.out ▸ hyx)).trans HYB.out).symm), HW7⟩
              · go_wp2_with fail
                refine (l4Step_any w6 w2.heap.size u l (by omega) (by omega) (by omega) HOL6.out).mono ?_
                intro r w7 hstep
                obtain ⟨t', rfl, hW7⟩ := WkRel.step hm1 hm4 (.inl rfl) HW6.out.1 HLL.out hstep
                have HW7 := Lib.hid hW7
                clear hW7 hstep
                go_wp2_with fail
                go_roundg (L + 1 - (d + 1))
                case measure => omega
                case rel => exact ⟨d + 1, t', _, rfl, by omega, rfl, rfl, Lib.hid (by rw [HCS.out, ← HX.out]; exact (leastF_more HFB.out (Int.not_lt.2 hx) (by rw [HYB.out]; omega)).symm), HW7⟩
    · have HN := Lib.hid (leastB_no (n := n) (qs := qs) (e := e) (by rw [k]; simp))
      go_enter Try.func17, Try.ntmps17
      go_wp2_with fail
      refine (specBookOk_any _ _ _ _ HV.out).mono ?_
      rintro r w2 ⟨rfl, b2⟩
      rw [h]
      have HB2 := Lib.hid b2
      clear b2
      go_wp2_with fail
      refine (specEventOk_any _ _ _).mono ?_
      rintro r w' ⟨rfl, rfl⟩
      rw [k]
      go_wp2_with fail
      go_ret
      exact ⟨ret_int HN.out.symm, HB2.out⟩
  · have HN := Lib.hid (leastB_no (n := n) (qs := qs) (e := e) (by rw [h]; simp))
    go_enter Try.func17, Try.ntmps17
    go_wp2_with fail
    refine (specBookOk_any _ _ _ _ HV.out).mono ?_
    rintro r w2 ⟨rfl, b2⟩
    rw [h]
    have HB2 := Lib.hid b2
    clear b2
    go_wp2_with fail
    go_ret
    exact ⟨ret_int HN.out.symm, HB2.out⟩

set_option maxHeartbeats 8000000 in
theorem specMostOn_any (w : World) (n : Int) (v : Value) (qs : List Qt) (e : Int) (hv : QRd w v qs) :
    Calls Try.prog 25 #[.int .i64 n, v, .int .i64 e] w (IntPost (mostB n qs e) w) := by
  have HV := Lib.hid hv
  clear hv
  rcases Bool.eq_false_or_eq_true (bokB n qs) with h | h
  · rcases Bool.eq_false_or_eq_true (evB n e) with k | k
    · have H := Lib.hid h
      have HK := Lib.hid k
      have HQ := Lib.hid (qts_of h)
      have HE := Lib.hid (evB_15 k)
      have hw1 : 1 ≤ n := ((bokB_iff _ _).1 h).1.1
      have hw2 : n ≤ 4 := ((bokB_iff _ _).1 h).1.2
      obtain ⟨m, rfl⟩ : ∃ m : Nat, n = m := ⟨n.toNat, by omega⟩
      have hm1 : 1 ≤ m := by omega
      have hm4 : m ≤ 4 := by omega
      go_enter Try.func25, Try.ntmps25
      go_wp2_with fail
      refine (specBookOk_any _ _ _ _ HV.out).mono ?_
      rintro r w2 ⟨rfl, b2⟩
      rw [h]
      have HB2 := Lib.hid b2
      have HV2 := Lib.hid (HV.out.keep (SameAt.of_below b2))
      clear b2 h
      go_wp2_with fail
      refine (specEventOk_any _ _ _).mono ?_
      rintro r w' ⟨rfl, rfl⟩
      rw [k]
      clear k
      go_wp2_with fail
      refine (l4First_any w2 m 36 hm1 hm4).mono ?_
      rintro r w3 ⟨u, rfl, o3, b3⟩
      have H0 := Lib.hid (WkRel.start hm1 o3 b3)
      clear o3 b3
      obtain ⟨L, hL⟩ : ∃ L, (lay m 36).length = L := ⟨_, rfl⟩
      have HL := Lib.hid hL
      clear hL
      go_wp2_with fail
      go_loopg [7, 9] (L + 1) (fun gk c s wr => ∃ (d : Nat) (t : Bool) (x : Int), gk = L + 1 - d ∧ d ≤ L ∧ s = .bool t ∧ c = .int .i64 x ∧ Hid (x = foldTo (mostF qs fun l => onI (natL l) e) (-1) m d) ∧ Hid (WkRel w2 m 36 u d t wr))
      case atStart => exact ⟨0, true, -1, by omega, Nat.zero_le _, rfl, rfl, Lib.hid (foldTo_zero _ _ _).symm, H0⟩
      case round =>
        obtain ⟨d, t, x, hgk, hd, rfl, rfl, HX, HW⟩ := hrel
        clear H0
        cases t
        · have HF : Hid (mostB (m : Int) qs e = x) := Lib.hid (by
            rw [mostB_yes H.out HK.out, HX.out, foldTo_all _ _ (by obtain ⟨-, l, -, -, h2⟩ := HW.out; rw [h2 rfl]; exact Nat.le_refl _)]; rfl)
          have HB := Lib.hid (below_step HB2.out HW.out.1 HB2.out.size)
          go_wp2_with fail
          go_ret
          exact ⟨ret_int HF.out.symm, HB.out⟩
        · obtain ⟨-, l, ol, hl, -⟩ := id HW.out
          have hl := hl rfl
          have HLL := Lib.hid hl
          have HCS := Lib.hid (foldTo_succ (mostF qs fun l => onI (natL l) e) (-1) hl)
          have hdL : d < L := by rw [← HL.out]; exact (List.getElem?_eq_some_iff.1 hl).1
          obtain ⟨hf1, hf2⟩ := lay_facts hm1 hl
          have HOL := Lib.hid ol
          have HG : Hid (Grs (natL l)) := Lib.hid (grs_of ((mea_lay (natL l)).2 ⟨by rw [natL_len]; omega, l, by rw [natL_len, hf1]; exact List.mem_of_getElem? hl, rfl⟩))
          clear hl ol
          obtain ⟨fb, hfb⟩ : ∃ fb, fitI (natL l) qs = fb := ⟨_, rfl⟩
          obtain ⟨y, hy⟩ : ∃ y, onI (natL l) e = y := ⟨_, rfl⟩
          have HFB := Lib.hid hfb
          have HYB := Lib.hid hy
          clear hfb hy
          go_wp2_with fail
          refine (l4Fits_any wr u v (natL l) qs HOL.out.rd (HV2.out.keep (SameAt.of_below HW.out.1)) HG.out HQ.out).mono ?_
          rintro r w5 ⟨rfl, b5⟩
          rw [HFB.out]
          have HW5 := Lib.hid (HW.out.keep b5)
          have HOL5 := Lib.hid (HOL.out.keep (SameAt.of_below b5))
          clear b5
          cases fb
          · have HW6 := HW5
            have HOL6 := HOL5
            obtain ⟨w6, rfl⟩ : ∃ w6, w6 = w5 := ⟨_, rfl⟩
            go_wp2_with fail
            refine (l4Step_any w6 w2.heap.size u l (by omega) (by omega) (by omega) HOL6.out).mono ?_
            intro r w7 hstep
            obtain ⟨t', rfl, hW7⟩ := WkRel.step hm1 hm4 (.inl rfl) HW6.out.1 HLL.out hstep
            have HW7 := Lib.hid hW7
            clear hW7 hstep
            go_wp2_with fail
            go_roundg (L + 1 - (d + 1))
            case measure => omega
            case rel => exact ⟨d + 1, t', _, rfl, by omega, rfl, rfl, Lib.hid (by rw [HCS.out, ← HX.out]; exact (mostF_no HFB.out).symm), HW7⟩
          · go_wp2_with fail
            refine (l4On_any w5 u (natL l) e HOL5.out.rd HG.out HE.out.1 HE.out.2).mono ?_
            rintro r w6 ⟨rfl, b6⟩
            rw [HYB.out]
            have HW6 := Lib.hid (HW5.out.keep b6)
            have HOL6 := Lib.hid (HOL5.out.keep (SameAt.of_below b6))
            clear b6
            by_cases hyx : x < y
            · go_wp2_with fail
              refine (l4Step_any w6 w2.heap.size u l (by omega) (by omega) (by omega) HOL6.out).mono ?_
              intro r w7 hstep
              obtain ⟨t', rfl, hW7⟩ := WkRel.step hm1 hm4 (.inl rfl) HW6.out.1 HLL.out hstep
              have HW7 := Lib.hid hW7
              clear hW7 hstep
              go_wp2_with fail
              go_roundg (L + 1 - (d + 1))
              case measure => omega
              case rel => exact ⟨d + 1, t', _, rfl, by omega, rfl, rfl, Lib.hid (by rw [HCS.out, ← HX.out]; exact ((mostF_up HFB.out (HYB.out ▸ hyx)).trans HYB.out).symm), HW7⟩
            · go_wp2_with fail
              refine (l4Step_any w6 w2.heap.size u l (by omega) (by omega) (by omega) HOL6.out).mono ?_
              intro r w7 hstep
              obtain ⟨t', rfl, hW7⟩ := WkRel.step hm1 hm4 (.inl rfl) HW6.out.1 HLL.out hstep
              have HW7 := Lib.hid hW7
              clear hW7 hstep
              go_wp2_with fail
              go_roundg (L + 1 - (d + 1))
              case measure => omega
              case rel => exact ⟨d + 1, t', _, rfl, by omega, rfl, rfl, Lib.hid (by rw [HCS.out, ← HX.out]; exact (mostF_down HFB.out (by rw [HYB.out]; omega)).symm), HW7⟩
    · have HN := Lib.hid (mostB_no (n := n) (qs := qs) (e := e) (by rw [k]; simp))
      go_enter Try.func25, Try.ntmps25
      go_wp2_with fail
      refine (specBookOk_any _ _ _ _ HV.out).mono ?_
      rintro r w2 ⟨rfl, b2⟩
      rw [h]
      have HB2 := Lib.hid b2
      clear b2
      go_wp2_with fail
      refine (specEventOk_any _ _ _).mono ?_
      rintro r w' ⟨rfl, rfl⟩
      rw [k]
      go_wp2_with fail
      go_ret
      exact ⟨ret_int HN.out.symm, HB2.out⟩
  · have HN := Lib.hid (mostB_no (n := n) (qs := qs) (e := e) (by rw [h]; simp))
    go_enter Try.func25, Try.ntmps25
    go_wp2_with fail
    refine (specBookOk_any _ _ _ _ HV.out).mono ?_
    rintro r w2 ⟨rfl, b2⟩
    rw [h]
    have HB2 := Lib.hid b2
    clear b2
    go_wp2_with fail
    go_ret
    exact ⟨ret_int HN.out.symm, HB2.out⟩

set_option maxHeartbeats 2000000 in
theorem specPinnedOk_any (w : World) (n : Int) (v : Value) (qs : List Qt) (e : Int) (hv : QRd w v qs) :
    Calls Try.prog 28 #[.int .i64 n, v, .int .i64 e] w (BoolPost (pinnedB n qs e) w) := by
  have HV := Lib.hid hv
  clear hv
  obtain ⟨x, hx⟩ : ∃ x, leastB n qs e = x := ⟨_, rfl⟩
  obtain ⟨y, hy⟩ : ∃ y, mostB n qs e = y := ⟨_, rfl⟩
  have HR : Hid (pinnedB n qs e = (decide (0 ≤ x) && decide (x = y))) := Lib.hid (by rw [pinnedB, hx, hy])
  have HX := Lib.hid hx
  have HY := Lib.hid hy
  clear hx hy
  go_enter Try.func28, Try.ntmps28
  go_wp2_with fail
  refine (specLeastOn_any _ _ _ _ e HV.out).mono ?_
  rintro r w2 ⟨rfl, b2⟩
  rw [HX.out]
  have HB2 := Lib.hid b2
  have HV2 := Lib.hid (HV.out.keep (SameAt.of_below b2))
  clear b2
  by_cases h0 : 0 ≤ x
  · go_wp2_with fail
    refine (specMostOn_any _ _ _ _ e HV2.out).mono ?_
    rintro r w3 ⟨rfl, b3⟩
    rw [HY.out]
    have HB3 := Lib.hid (below_step HB2.out b3 HB2.out.size)
    clear b3
    go_wp2_with fail
    go_ret
    exact ⟨ret_bool (by rw [HR.out, decide_eq_true h0]; rfl), HB3.out⟩
  · go_wp2_with fail
    go_ret
    exact ⟨ret_bool (by rw [HR.out, decide_eq_false (Int.not_le.2 h0)]; rfl), HB2.out⟩

theorem one_rd (w : World) (a b : Int) : QRd (w.alloc (.cells #[.int .i64 a, .int .i64 b] 35)) (.slice (some ⟨w.heap.size, 0, none⟩) 1 1) [(a, b)] :=
  GOwn.rd (base := w.heap.size) (fun _ => rfl) (show QOwn _ _ _ [(a, b)] from World.ownsRow_lit w #[.int .i64 a, .int .i64 b] 1 (Nat.le_refl _) (by unfold maxLen; omega) rfl)

set_option maxHeartbeats 8000000 in
theorem specFurtherOk_any (w : World) (n : Int) (v : Value) (qs : List Qt) (q : Qt) (hv : QRd w v qs) :
    Calls Try.prog 32 #[.int .i64 n, v, qV q] w (BoolPost (furB n qs q) w) := by
  obtain ⟨a, b⟩ := q
  unfold qV
  obtain ⟨w1, hw1⟩ : ∃ w1, w.alloc (.cells #[.int .i64 a, .int .i64 b] 35) = w1 := ⟨_, rfl⟩
  have hb1 : Below w.heap.size w w1 := by rw [← hw1]; exact (Below.refl _ _).alloc (Nat.le_refl _) _
  have HC : Hid (∀ wr, Below w1.heap.size w1 wr → wr.cell? ⟨w.heap.size, 0, none⟩ = some (.int .i64 a) ∧ wr.cell? ⟨w.heap.size, 1, none⟩ = some (.int .i64 b)) := Lib.hid (fun wr h => box_cells (q := (a, b)) (W := w) (by unfold qBlk; rw [hw1]; exact h))
  have HV := Lib.hid (hv.keep (SameAt.of_below hb1))
  have HB1 := Lib.hid hb1
  have HW1 := Lib.hid hw1
  clear hv hb1 hw1
  rcases Bool.eq_false_or_eq_true (bokB n qs) with h | h
  · rcases Bool.eq_false_or_eq_true (qokB n (a, b)) with k | k
    · have H := Lib.hid h
      have HK := Lib.hid k
      have HQ := Lib.hid (qts_of h)
      have HQ1 : Hid (Qts [(a, b)]) := Lib.hid (fun q hq => by
        obtain rfl := List.mem_singleton.1 hq
        obtain ⟨-, g2, g3, -, -, g6, g7⟩ := qok_true k
        exact ⟨⟨g6, g7⟩, g2, g3⟩)
      have hw1 : 1 ≤ n := ((bokB_iff _ _).1 h).1.1
      have hw2 : n ≤ 4 := ((bokB_iff _ _).1 h).1.2
      obtain ⟨m, rfl⟩ : ∃ m : Nat, n = m := ⟨n.toNat, by omega⟩
      have hm1 : 1 ≤ m := by omega
      have hm4 : m ≤ 4 := by omega
      go_enter Try.func32, Try.ntmps32
      go_wp2_with fail
      rw [HW1.out]
      refine (specBookOk_any _ _ _ _ HV.out).mono ?_
      rintro r w2 ⟨rfl, b2⟩
      rw [h]
      obtain ⟨hc0, hc1⟩ := HC.out w2 b2
      have HB2 := Lib.hid b2
      clear b2 h
      go_wp2_with fail
      refine (specQuoteOk_any _ (a, b) _).mono ?_
      rintro r w3 ⟨rfl, b3⟩
      rw [k]
      have HB3 := Lib.hid (below_step HB2.out b3 HB2.out.size)
      have HV3 := Lib.hid (HV.out.keep (SameAt.of_below HB3.out))
      clear b3 k hc0 hc1
      go_wp2_with fail
      refine (l4First_any w3 m 36 hm1 hm4).mono ?_
      rintro r w4 ⟨u, rfl, o3, b4⟩
      have H0 := Lib.hid (WkRel.start hm1 o3 b4)
      clear o3 b4
      obtain ⟨L, hL⟩ : ∃ L, (lay m 36).length = L := ⟨_, rfl⟩
      have HL := Lib.hid hL
      clear hL
      go_wp2_with fail
      go_loopg [8] (L + 1) (fun gk s wr => ∃ (d : Nat) (t : Bool), gk = L + 1 - d ∧ d ≤ L ∧ s = .bool t ∧ Hid (WkRel w3 m 36 u d t wr) ∧ Hid (∀ j, j < d → ∀ x, (lay m 36)[j]? = some x → (fitI (natL x) qs && fitI (natL x) [(a, b)]) = false))
      case atStart => exact ⟨0, true, by omega, Nat.zero_le _, rfl, H0, Lib.hid (fun j hj => absurd hj (Nat.not_lt_zero _))⟩
      case round =>
        obtain ⟨d, t, hgk, hd, rfl, HW, HN⟩ := hrel
        clear H0
        cases t
        · have HF := Lib.hid (fur_none H.out HK.out (by have h1 := HN.out; obtain ⟨-, l, -, -, h2⟩ := HW.out; rw [h2 rfl]; exact h1))
          have HB := Lib.hid (HB1.out.trans ((below_step HB3.out HW.out.1 HB3.out.size).mono HB1.out.size))
          go_wp2_with fail
          go_ret
          exact ⟨ret_bool HF.out.symm, HB.out⟩
        · obtain ⟨-, l, ol, hl, -⟩ := id HW.out
          have hl := hl rfl
          have HLL := Lib.hid hl
          have hdL : d < L := by rw [← HL.out]; exact (List.getElem?_eq_some_iff.1 hl).1
          obtain ⟨hf1, hf2⟩ := lay_facts hm1 hl
          have HOL := Lib.hid ol
          have HG : Hid (Grs (natL l)) := Lib.hid (grs_of ((mea_lay (natL l)).2 ⟨by rw [natL_len]; omega, l, by rw [natL_len, hf1]; exact List.mem_of_getElem? hl, rfl⟩))
          clear hl ol
          obtain ⟨fb, hfb⟩ : ∃ fb, fitI (natL l) qs = fb := ⟨_, rfl⟩
          obtain ⟨fc, hfc⟩ : ∃ fc, fitI (natL l) [(a, b)] = fc := ⟨_, rfl⟩
          have HFB := Lib.hid hfb
          have HFC := Lib.hid hfc
          clear hfb hfc
          go_wp2_with fail
          refine (l4Fits_any wr u v (natL l) qs HOL.out.rd (HV3.out.keep (SameAt.of_below HW.out.1)) HG.out HQ.out).mono ?_
          rintro r w5 ⟨rfl, b5⟩
          rw [HFB.out]
          have HW5 := Lib.hid (HW.out.keep b5)
          have HOL5 := Lib.hid (HOL.out.keep (SameAt.of_below b5))
          have HB5 := Lib.hid (below_step HB3.out HW5.out.1 HB3.out.size)
          clear b5
          cases fb
          · have HW6 := HW5
            have HOL6 := HOL5
            obtain ⟨w6, rfl⟩ : ∃ w6, w6 = w5 := ⟨_, rfl⟩
            go_wp2_with fail
            refine (l4Step_any w6 w3.heap.size u l (by omega) (by omega) (by omega) HOL6.out).mono ?_
            intro r w7 hstep
            obtain ⟨t', rfl, hW7⟩ := WkRel.step hm1 hm4 (.inl rfl) HW6.out.1 HLL.out hstep
            have HW7 := Lib.hid hW7
            clear hW7 hstep
            go_wp2_with fail
            go_roundg (L + 1 - (d + 1))
            case measure => omega
            case rel => exact ⟨d + 1, t', rfl, by omega, rfl, HW7, Lib.hid (fun j hj x hx => by
              rcases Nat.lt_succ_iff_lt_or_eq.1 hj with h1 | h1
              · exact HN.out j h1 x hx
              · subst h1; rw [HLL.out] at hx; obtain rfl := Option.some.inj hx; rw [HFB.out]; rfl)⟩
          · obtain ⟨hc0, hc1⟩ := HC.out w5 HB5.out
            go_wp2_with fail
            have HBX : Hid (Below w5.heap.size w5 (w5.alloc (.cells #[.int .i64 a, .int .i64 b] 35))) := Lib.hid ((Below.refl _ _).alloc (Nat.le_refl _) _)
            refine (l4Fits_any _ u _ (natL l) [(a, b)] (HOL5.out.keep (SameAt.of_below HBX.out)).rd (one_rd w5 a b) HG.out HQ1.out).mono ?_
            rintro r w6 ⟨rfl, b6⟩
            rw [HFC.out]
            have HW6 := Lib.hid ((HW5.out.keep HBX.out).keep b6)
            have HOL6 := Lib.hid ((HOL5.out.keep (SameAt.of_below HBX.out)).keep (SameAt.of_below b6))
            clear b6 hc0 hc1
            cases fc
            · go_wp2_with fail
              refine (l4Step_any w6 w3.heap.size u l (by omega) (by omega) (by omega) HOL6.out).mono ?_
              intro r w7 hstep
              obtain ⟨t', rfl, hW7⟩ := WkRel.step hm1 hm4 (.inl rfl) HW6.out.1 HLL.out hstep
              have HW7 := Lib.hid hW7
              clear hW7 hstep
              go_wp2_with fail
              go_roundg (L + 1 - (d + 1))
              case measure => omega
              case rel => exact ⟨d + 1, t', rfl, by omega, rfl, HW7, Lib.hid (fun j hj x hx => by
                rcases Nat.lt_succ_iff_lt_or_eq.1 hj with h1 | h1
                · exact HN.out j h1 x hx
                · subst h1; rw [HLL.out] at hx; obtain rfl := Option.some.inj hx; rw [HFC.out, Bool.and_false])⟩
            · have HF := Lib.hid (fur_at H.out HK.out HLL.out HFB.out HFC.out)
              have HB := Lib.hid (HB1.out.trans ((below_step HB3.out HW6.out.1 HB3.out.size).mono HB1.out.size))
              go_wp2_with fail
              go_ret
              exact ⟨ret_bool HF.out.symm, HB.out⟩
    · have HN : Hid (furB n qs (a, b) = false) := Lib.hid (by rw [furB, k, Bool.false_and, Bool.and_false])
      go_enter Try.func32, Try.ntmps32
      go_wp2_with fail
      rw [HW1.out]
      refine (specBookOk_any _ _ _ _ HV.out).mono ?_
      rintro r w2 ⟨rfl, b2⟩
      rw [h]
      obtain ⟨hc0, hc1⟩ := HC.out w2 b2
      have HB2 := Lib.hid b2
      clear b2 h
      go_wp2_with fail
      refine (specQuoteOk_any _ (a, b) _).mono ?_
      rintro r w3 ⟨rfl, b3⟩
      rw [k]
      have HB3 := Lib.hid (HB1.out.trans ((below_step HB2.out b3 HB2.out.size).mono HB1.out.size))
      clear b3 k hc0 hc1
      go_wp2_with fail
      go_ret
      exact ⟨ret_bool HN.out.symm, HB3.out⟩
  · have HN : Hid (furB n qs (a, b) = false) := Lib.hid (by rw [furB, h, Bool.false_and])
    go_enter Try.func32, Try.ntmps32
    go_wp2_with fail
    rw [HW1.out]
    refine (specBookOk_any _ _ _ _ HV.out).mono ?_
    rintro r w2 ⟨rfl, b2⟩
    rw [h]
    have HB2 := Lib.hid (HB1.out.trans (b2.mono HB1.out.size))
    clear b2 h
    go_wp2_with fail
    go_ret
    exact ⟨ret_bool HN.out.symm, HB2.out⟩

set_option maxHeartbeats 8000000 in
theorem specLeastBrings_any (w : World) (n : Int) (v u0 : Value) (qs : List Qt) (g : List Int) (hv : QRd w v qs) (hu : IRd w u0 g) :
    Calls Try.prog 36 #[.int .i64 n, v, u0] w (NumPost (lbP n qs g).1 (lbP n qs g).2 w) := by
  obtain ⟨A, c, rfl, hl, hmx, -⟩ := id hu
  have HV := Lib.hid hv
  have HU := Lib.hid hu
  clear hv hu
  rcases Bool.eq_false_or_eq_true (bokB n qs) with h | h
  · rcases Bool.eq_false_or_eq_true (gokB g) with k | k
    · by_cases hn : (g.length : Int) = n
      · have HVV : Hid (lbV n qs g = true) := Lib.hid (by rw [lbV, h, k, decide_eq_true hn]; rfl)
        have HQ := Lib.hid (qts_of h)
        have HK := Lib.hid k
        have hw1 : 1 ≤ n := ((bokB_iff _ _).1 h).1.1
        have hw2 : n ≤ 4 := ((bokB_iff _ _).1 h).1.2
        have HGL : Hid (g.length = n.toNat) := Lib.hid (by omega)
        have hne : ((g.length : Int) != n) = false := by simpa using hn
        clear hn
        obtain ⟨m, rfl⟩ : ∃ m : Nat, n = m := ⟨n.toNat, by omega⟩
        have hm1 : 1 ≤ m := by omega
        have hm4 : m ≤ 4 := by omega
        go_enter Try.func36, Try.ntmps36
        go_wp2_with fail
        refine (specBookOk_any _ _ _ _ HV.out).mono ?_
        rintro r w2 ⟨rfl, b2⟩
        rw [h]
        have HB2 := Lib.hid b2
        have HV2 := Lib.hid (HV.out.keep (SameAt.of_below b2))
        have HU2 := Lib.hid (HU.out.keep (SameAt.of_below b2))
        clear b2 h
        go_wp2_with fail
        refine (specGambleOk_any _ _ _ HU2.out).mono ?_
        rintro r w' ⟨rfl, rfl⟩
        rw [k]
        clear k
        go_wp2_with fail
        refine (l4First_any w2 m 36 hm1 hm4).mono ?_
        rintro r w3 ⟨u, rfl, o3, b3⟩
        have H0 := Lib.hid (WkRel.start hm1 o3 b3)
        clear o3 b3
        obtain ⟨L, hL⟩ : ∃ L, (lay m 36).length = L := ⟨_, rfl⟩
        have HL := Lib.hid hL
        clear hL hne
        go_wp2_with fail
        go_loopg [8, 9, 11] (L + 1) (fun gk c0 c1 s wr => ∃ (d : Nat) (t : Bool) (x : Int) (b : Bool), gk = L + 1 - d ∧ d ≤ L ∧ s = .bool t ∧ c0 = .int .i64 x ∧ c1 = .bool b ∧ Hid ((x, b) = foldTo (leastBF qs g) (0, false) m d) ∧ Hid (WkRel w2 m 36 u d t wr))
        case atStart => exact ⟨0, true, 0, false, by omega, Nat.zero_le _, rfl, rfl, rfl, Lib.hid (foldTo_zero _ _ _).symm, H0⟩
        case round =>
          obtain ⟨d, t, x, b, hgk, hd, rfl, rfl, rfl, HX, HW⟩ := hrel
          clear H0
          cases t
          · have HF : Hid (lbP (m : Int) qs g = (x, b)) := Lib.hid (by
              rw [lb_yes HVV.out, HX.out, foldTo_all _ _ (by obtain ⟨-, l, -, -, h2⟩ := HW.out; rw [h2 rfl]; exact Nat.le_refl _)]; rfl)
            have HB := Lib.hid (below_step HB2.out HW.out.1 HB2.out.size)
            go_wp2_with fail
            go_ret2
            exact numPost_ret (by rw [HF.out]) (by rw [HF.out]) HB.out
          · obtain ⟨-, l, ol, hl, -⟩ := id HW.out
            have hl := hl rfl
            have HLL := Lib.hid hl
            have HCS := Lib.hid (foldTo_succ (leastBF qs g) (0, false) hl)
            have hdL : d < L := by rw [← HL.out]; exact (List.getElem?_eq_some_iff.1 hl).1
            obtain ⟨hf1, hf2⟩ := lay_facts hm1 hl
            have HOL := Lib.hid ol
            have hme : meaB (natL l) = true := (mea_lay (natL l)).2 ⟨by rw [natL_len]; omega, l, by rw [natL_len, hf1]; exact List.mem_of_getElem? hl, rfl⟩
            have HG : Hid (Grs (natL l)) := Lib.hid (grs_of hme)
            have hbb : brB (natL l) g = true := by
              have h1 := HGL.out
              rw [brB, hme, HK.out]
              simp [natL_len]; omega
            have HBB := Lib.hid hbb
            obtain ⟨y, hy⟩ : ∃ y, brI (natL l) g = y := ⟨_, rfl⟩
            have HYR : Hid (brR (natL l) g = y) := Lib.hid (by rw [br_yes hbb, hy])
            have HY := Lib.hid hy
            clear hl ol hme hbb hy
            obtain ⟨fb, hfb⟩ : ∃ fb, fitI (natL l) qs = fb := ⟨_, rfl⟩
            have HFB := Lib.hid hfb
            clear hfb
            go_wp2_with fail
            refine (l4Fits_any wr u v (natL l) qs HOL.out.rd (HV2.out.keep (SameAt.of_below HW.out.1)) HG.out HQ.out).mono ?_
            rintro r w5 ⟨rfl, b5⟩
            rw [HFB.out]
            have HW5 := Lib.hid (HW.out.keep b5)
            have HOL5 := Lib.hid (HOL.out.keep (SameAt.of_below b5))
            clear b5
            cases fb
            · have HW6 := HW5
              have HOL6 := HOL5
              obtain ⟨w6, rfl⟩ : ∃ w6, w6 = w5 := ⟨_, rfl⟩
              go_wp2_with fail
              refine (l4Step_any w6 w2.heap.size u l (by omega) (by omega) (by omega) HOL6.out).mono ?_
              intro r w7 hstep
              obtain ⟨t', rfl, hW7⟩ := WkRel.step hm1 hm4 (.inl rfl) HW6.out.1 HLL.out hstep
              have HW7 := Lib.hid hW7
              clear hW7 hstep
              go_wp2_with fail
              go_roundg (L + 1 - (d + 1))
              case measure => omega
              case rel => exact ⟨d + 1, t', _, _, rfl, by omega, rfl, rfl, rfl, Lib.hid (by rw [HCS.out, ← HX.out]; exact (lbF_no HFB.out).symm), HW7⟩
            · go_wp2_with fail
              refine (specBringsBy_any w5 u _ (natL l) g HOL5.out.rd (HU2.out.keep (SameAt.of_below HW5.out.1))).mono ?_
              rintro r w6 ⟨rfl, b6⟩
              rw [HYR.out, HBB.out]
              have HW6 := Lib.hid (HW5.out.keep b6)
              have HOL6 := Lib.hid (HOL5.out.keep (SameAt.of_below b6))
              clear b6
              cases b
              · go_wp2_with fail
                refine (l4Step_any w6 w2.heap.size u l (by omega) (by omega) (by omega) HOL6.out).mono ?_
                intro r w7 hstep
                obtain ⟨t', rfl, hW7⟩ := WkRel.step hm1 hm4 (.inl rfl) HW6.out.1 HLL.out hstep
                have HW7 := Lib.hid hW7
                clear hW7 hstep
                go_wp2_with fail
                go_roundg (L + 1 - (d + 1))
                case measure => omega
                case rel => exact ⟨d + 1, t', _, _, rfl, by omega, rfl, rfl, rfl, Lib.hid (by rw [HCS.out, ← HX.out]; exact ((lbF_first HFB.out).trans (by rw [HY.out])).symm), HW7⟩
              · by_cases hyx : y < x
                · go_wp2_with fail
                  refine (l4Step_any w6 w2.heap.size u l (by omega) (by omega) (by omega) HOL6.out).mono ?_
                  intro r w7 hstep
                  obtain ⟨t', rfl, hW7⟩ := WkRel.step hm1 hm4 (.inl rfl) HW6.out.1 HLL.out hstep
                  have HW7 := Lib.hid hW7
                  clear hW7 hstep
                  go_wp2_with fail
                  go_roundg (L + 1 - (d + 1))
                  case measure => omega
                  case rel => exact ⟨d + 1, t', _, _, rfl, by omega, rfl, rfl, rfl, Lib.hid (by rw [HCS.out, ← HX.out]; exact ((lbF_less HFB.out (HY.out ▸ hyx)).trans (by rw [HY.out])).symm), HW7⟩
                · go_wp2_with fail
                  refine (l4Step_any w6 w2.heap.size u l (by omega) (by omega) (by omega) HOL6.out).mono ?_
                  intro r w7 hstep
                  obtain ⟨t', rfl, hW7⟩ := WkRel.step hm1 hm4 (.inl rfl) HW6.out.1 HLL.out hstep
                  have HW7 := Lib.hid hW7
                  clear hW7 hstep
                  go_wp2_with fail
                  go_roundg (L + 1 - (d + 1))
                  case measure => omega
                  case rel => exact ⟨d + 1, t', _, _, rfl, by omega, rfl, rfl, rfl, Lib.hid (by rw [HCS.out, ← HX.out]; exact (lbF_more HFB.out (by rw [HY.out]; omega)).symm), HW7⟩
      · have HN := Lib.hid (lb_no (n := n) (qs := qs) (g := g) (by rw [lbV, h, k, decide_eq_false hn]; rfl))
        have hne : ((g.length : Int) != n) = true := by simpa using hn
        clear hn
        go_enter Try.func36, Try.ntmps36
        go_wp2_with fail
        refine (specBookOk_any _ _ _ _ HV.out).mono ?_
        rintro r w2 ⟨rfl, b2⟩
        rw [h]
        have HB2 := Lib.hid b2
        have HU2 := Lib.hid (HU.out.keep (SameAt.of_below b2))
        clear b2 h
        go_wp2_with fail
        refine (specGambleOk_any _ _ _ HU2.out).mono ?_
        rintro r w' ⟨rfl, rfl⟩
        rw [k]
        clear k
        go_wp2_with fail
        go_ret2
        exact numPost_ret (by rw [HN.out]) (by rw [HN.out]) HB2.out
    · have HN := Lib.hid (lb_no (n := n) (qs := qs) (g := g) (by rw [lbV, h, k]; rfl))
      go_enter Try.func36, Try.ntmps36
      go_wp2_with fail
      refine (specBookOk_any _ _ _ _ HV.out).mono ?_
      rintro r w2 ⟨rfl, b2⟩
      rw [h]
      have HB2 := Lib.hid b2
      have HU2 := Lib.hid (HU.out.keep (SameAt.of_below b2))
      clear b2 h
      go_wp2_with fail
      refine (specGambleOk_any _ _ _ HU2.out).mono ?_
      rintro r w' ⟨rfl, rfl⟩
      rw [k]
      clear k
      go_wp2_with fail
      go_ret2
      exact numPost_ret (by rw [HN.out]) (by rw [HN.out]) HB2.out
  · have HN := Lib.hid (lb_no (n := n) (qs := qs) (g := g) (by rw [lbV, h]; rfl))
    go_enter Try.func36, Try.ntmps36
    go_wp2_with fail
    refine (specBookOk_any _ _ _ _ HV.out).mono ?_
    rintro r w2 ⟨rfl, b2⟩
    rw [h]
    have HB2 := Lib.hid b2
    clear b2 h
    go_wp2_with fail
    go_ret2
    exact numPost_ret (by rw [HN.out]) (by rw [HN.out]) HB2.out

end Go.Proofs.Yteljcicdibbhdaa
