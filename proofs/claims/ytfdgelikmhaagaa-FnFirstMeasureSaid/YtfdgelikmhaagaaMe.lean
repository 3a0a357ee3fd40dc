/- Contracts on the walk over measures: spec: CountMeasures, l4Units, FairOk, MixedMeasure. Conditions: stated at each. -/
import Derived.Test.YtfdgelikmhaagaaMd
import Derived.Test.YtfdgelikmhaagaaGf
namespace Go.Proofs.Ytfdgelikmhaagaa
open Go.RowKit
set_option linter.unusedVariables false

/-- how many of the first d fit -/
def cntI (n : Nat) (qs : List Qt) (d : Nat) : Int := ((((lay n 36).take d).filter fun l => fitI (natL l) qs).length : Nat)

theorem cnt_step {n : Nat} {qs : List Qt} {d : Nat} {l : List Nat} (h : (lay n 36)[d]? = some l) : cntI n qs (d + 1) = cntI n qs d + (if fitI (natL l) qs = true then 1 else 0) := by
  unfold cntI
  rw [List.take_add_one, h, List.filter_append]
  cases hf : fitI (natL l) qs <;> simp [hf]

theorem cnt_le (n : Nat) (qs : List Qt) (d : Nat) : 0 ≤ cntI n qs d ∧ cntI n qs d ≤ d := by
  have h1 : (((lay n 36).take d).filter fun l => fitI (natL l) qs).length ≤ d := Nat.le_trans (List.length_filter_le _ _) (by simp; omega)
  unfold cntI; omega

/-- how many measures fit; -1 for others -/
def countI (n : Int) (qs : List Qt) : Int := if bokB n qs = true then (countFit n.toNat qs : Int) else -1

theorem count_yes {n : Nat} {qs : List Qt} (h : bokB (n : Int) qs = true) {d : Nat} (hd : (lay n 36).length ≤ d) : countI n qs = cntI n qs d := by
  rw [countI, if_pos h, Int.toNat_natCast, cntI, List.take_of_length_le hd]; rfl

theorem count_no {n : Int} {qs : List Qt} (h : bokB n qs = false) : countI n qs = -1 := by rw [countI, h]; rfl

set_option maxHeartbeats 4000000 in
theorem specCountMeasures_any (w : World) (n : Int) (v : Value) (qs : List Qt) (hv : QRd w v qs) :
    Calls Try.prog 50 #[.int .i64 n, v] w (IntPost (countI n qs) w) := by
  have HV := Lib.hid hv
  clear hv
  rcases Bool.eq_false_or_eq_true (bokB n qs) with h | h
  · have H := Lib.hid h
    have HQ := Lib.hid (qts_of h)
    have hw1 : 1 ≤ n := ((bokB_iff _ _).1 h).1.1
    have hw2 : n ≤ 4 := ((bokB_iff _ _).1 h).1.2
    obtain ⟨m, rfl⟩ : ∃ m : Nat, n = m := ⟨n.toNat, by omega⟩
    have hm1 : 1 ≤ m := by omega
    have hm4 : m ≤ 4 := by omega
    go_enter Try.func50, Try.ntmps50
    go_wp2_with fail
    refine (specBookOk_any _ _ _ _ HV.out).mono ?_
    rintro r w2 ⟨rfl, b2⟩
    rw [h]
    have HB2 := Lib.hid b2
    have HV2 := Lib.hid (HV.out.keep (SameAt.of_below b2))
    clear b2 h
    go_wp2_with fail
    refine (l4First_any w2 m 36 hm1 hm4).mono ?_
    rintro r w3 ⟨u, rfl, o3, b3⟩
    have H0 := Lib.hid (WkRel.start hm1 o3 b3)
    clear o3 b3
    obtain ⟨L, hL⟩ : ∃ L, (lay m 36).length = L := ⟨_, rfl⟩
    have hL4 : L ≤ 9139 := by
      obtain ⟨a1, a2, a3, a4⟩ := lay_len36
      obtain rfl | rfl | rfl | rfl : m = 1 ∨ m = 2 ∨ m = 3 ∨ m = 4 := by omega
      all_goals omega
    have HL := Lib.hid hL
    clear hL
    go_wp2_with fail
    go_loopg [5, 7] (L + 1) (fun gk c s wr => ∃ (d : Nat) (t : Bool) (x : Int), gk = L + 1 - d ∧ d ≤ L ∧ s = .bool t ∧ c = .int .i64 x ∧ Hid (x = cntI m qs d) ∧ Hid (WkRel w2 m 36 u d t wr))
    case atStart => exact ⟨0, true, 0, by omega, Nat.zero_le _, rfl, rfl, Lib.hid (by simp [cntI]), H0⟩
    case round =>
      obtain ⟨d, t, x, hgk, hd, rfl, rfl, HX, HW⟩ := hrel
      clear H0
      cases t
      · have HF := Lib.hid (count_yes (d := d) H.out (by obtain ⟨-, l, -, -, h2⟩ := HW.out; rw [h2 rfl]; exact Nat.le_refl _))
        have HB := Lib.hid (below_step HB2.out HW.out.1 HB2.out.size)
        go_wp2_with fail
        go_ret
        exact ⟨ret_int (by rw [HF.out]; exact HX.out), HB.out⟩
      · obtain ⟨-, l, ol, hl, -⟩ := id HW.out
        have hl := hl rfl
        have HLL := Lib.hid hl
        have HCS := Lib.hid (cnt_step (qs := qs) hl)
        have hdL : d < L := by rw [← HL.out]; exact (List.getElem?_eq_some_iff.1 hl).1
        obtain ⟨hf1, hf2⟩ := lay_facts hm1 hl
        have HOL := Lib.hid ol
        have HG : Hid (Grs (natL l)) := Lib.hid (grs_of ((mea_lay (natL l)).2 ⟨by rw [natL_len]; omega, l, by rw [natL_len, hf1]; exact List.mem_of_getElem? hl, rfl⟩))
        clear hl ol
        obtain ⟨x1, x2⟩ : 0 ≤ x ∧ x ≤ 9139 := by
          have := cnt_le m qs d
          rw [← HX.out] at this
          omega
        obtain ⟨fb, hfb⟩ : ∃ fb, fitI (natL l) qs = fb := ⟨_, rfl⟩
        have HFB := Lib.hid hfb
        clear hfb
        go_wp2_with fail
        refine (l4Fits_any wr u v (natL l) qs HOL.out.rd (HV2.out.keep (SameAt.of_below HW.out.1)) HG.out HQ.out).mono ?_
        rintro r w5 ⟨rfl, b5⟩
        rw [HFB.out]
        have HW5 := Lib.hid (HW.out.keep b5)
        have HOL5 := Lib.hid (HOL.out.keep (SameAt.of_below b5))
        clear b5
        cases fb
        all_goals
          go_wp2_with fail
          refine (l4Step_any w5 w2.heap.size u l (by omega) (by omega) (by omega) HOL5.out).mono ?_
          intro r w6 hstep
          obtain ⟨t', rfl, hW6⟩ := WkRel.step hm1 hm4 (.inl rfl) HW5.out.1 HLL.out hstep
          have HW6 := Lib.hid hW6
          clear hW6 hstep
          go_wp2_with fail
          go_roundg (L + 1 - (d + 1))
          case measure => omega
          case rel => exact ⟨d + 1, t', _, rfl, by omega, rfl, rfl, Lib.hid (by rw [HCS.out, HFB.out, ← HX.out]; simp), HW6⟩
  · have HN := Lib.hid (count_no h)
    go_enter Try.func50, Try.ntmps50
    go_wp2_with fail
    refine (specBookOk_any _ _ _ _ HV.out).mono ?_
    rintro r w2 ⟨rfl, b2⟩
    rw [h]
    have HB2 := Lib.hid b2
    clear b2
    go_wp2_with fail
    go_ret
    exact ⟨ret_int HN.out.symm, HB2.out⟩

end Go.Proofs.Ytfdgelikmhaagaa
