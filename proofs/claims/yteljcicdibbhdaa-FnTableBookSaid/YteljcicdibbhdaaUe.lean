/- Contracts of spec's AdditiveOk and MeasureOf. Conditions: rows that read as lists. -/
import Derived.Test.YteljcicdibbhdaaUc
namespace Go.Proofs.Yteljcicdibbhdaa
open Go.RowKit
set_option linter.unusedVariables false

theorem add_no1 {n : Int} {t : List Int} (h : tokB n t = false) : addB n t = false := by rw [addB, h]; rfl

theorem add_no2 {n : Int} {t : List Int} {a b : Nat} (hf : fault t = some (a, b)) : addB n t = false := by rw [addB, hf]; simp

theorem add_at {n : Int} {t : List Int} (h : tokB n t = true) (hf : fault t = none) : addB n t = (tget t (t.length - 1) == 36) := by
  rw [addB, h, hf]; rfl

set_option maxRecDepth 100000 in
set_option maxHeartbeats 4000000 in
theorem specAdditiveOk_any (w : World) (n : Int) (v : Value) (t : List Int) (hv : IRd w v t) :
    Calls Try.prog 47 #[.int .i64 n, v] w (BoolPost (addB n t) w) := by
  obtain ⟨A, c, rfl, hl, hm, -⟩ := id hv
  have HV := Lib.hid hv
  clear hv
  obtain ⟨fa, hfa⟩ : ∃ x, ffA n t = x := ⟨_, rfl⟩
  obtain ⟨fb, hfb⟩ : ∃ x, ffB n t = x := ⟨_, rfl⟩
  obtain ⟨fo, hfo⟩ : ∃ x, ffO n t = x := ⟨_, rfl⟩
  have HF := Lib.hid (And.intro hfa (And.intro hfb hfo))
  have HP : Hid (∀ w0 w2 r, FFPost n t w0 r w2 → r = .returned (.tuple #[.int .i64 fa, .int .i64 fb, .bool fo]) ∧ Below w0.heap.size w0 w2) := Lib.hid (by rintro w0 w2 r ⟨rfl, b⟩; rw [hfa, hfb, hfo]; exact ⟨rfl, b⟩)
  clear hfa hfb hfo
  rcases Bool.eq_false_or_eq_true (tokB n t) with h | h
  · have H := Lib.hid h
    obtain ⟨-, -, -, -, -, h16, h2⟩ := tok_len h
    rcases hf : fault t with _ | ⟨a, b⟩
    · obtain ⟨L, hL⟩ : ∃ L, t.length = L + 1 := ⟨t.length - 1, by omega⟩
      have HL := Lib.hid hL
      obtain ⟨x, hx⟩ : ∃ x, t[L]? = some x := ⟨_, List.getElem?_eq_getElem (by omega)⟩
      have HX := Lib.hid hx
      have HA : Hid (addB n t = (x == 36)) := Lib.hid (by rw [add_at h hf, hL]; show (tget t L == 36) = _; rw [tget_at hx])
      have hfo : fo = false := by rw [← HF.out.2.2]; exact (ff_none hf).2.2
      subst hfo
      have hw1 : IntKind.i64.wrap ((t.length : Int) - 1) = (L : Int) := by rw [IntWalk.i64_in _ (by omega)]; omega
      have hw2 : wrap64 ((t.length : Int) - 1) = (L : Int) := by rw [IntWalk.wrap64_in _ (by omega)]; omega
      have hi1 : (0 : Int) ≤ (L : Int) := by omega
      have hi2 : (L : Int) < (t.length : Int) := by omega
      clear hL hx h hf HF
      obtain ⟨s, hs⟩ : ∃ s, (x == 36) = s := ⟨_, rfl⟩
      rw [hs] at HA
      go_enter Try.func47, Try.ntmps47
      go_wp2_with fail
      refine (specFirstFault_any _ _ _ _ HV.out).mono ?_
      intro r w2 hp
      obtain ⟨rfl, b2⟩ := HP.out _ _ _ hp
      have HB2 := Lib.hid b2
      have HV2 := Lib.hid (HV.out.keep (SameAt.of_below b2))
      clear b2 hp
      go_wp2_with fail
      refine (specTableOk_any _ _ _ _ HV2.out).mono ?_
      rintro r w' ⟨rfl, rfl⟩
      rw [H.out]
      obtain ⟨B, off, y, rfl, -, hy, hcy⟩ := HV2.out.at_ (k := L) (by have := HL.out; omega)
      obtain rfl : y = x := Option.some.inj (hy.symm.trans HX.out)
      clear hy
      go_wp2_with fail
      go_ret
      exact ⟨ret_bool HA.out.symm, HB2.out⟩
    · have hfo : fo = true := by rw [← HF.out.2.2]; exact (ff_some h hf).2.2
      subst hfo
      have HN := Lib.hid (add_no2 (n := n) hf)
      clear h hf HF
      go_enter Try.func47, Try.ntmps47
      go_wp2_with fail
      refine (specFirstFault_any _ _ _ _ HV.out).mono ?_
      intro r w2 hp
      obtain ⟨rfl, b2⟩ := HP.out _ _ _ hp
      have HB2 := Lib.hid b2
      have HV2 := Lib.hid (HV.out.keep (SameAt.of_below b2))
      clear b2 hp
      go_wp2_with fail
      refine (specTableOk_any _ _ _ _ HV2.out).mono ?_
      rintro r w' ⟨rfl, rfl⟩
      rw [H.out]
      go_wp2_with fail
      go_ret
      exact ⟨ret_bool HN.out.symm, HB2.out⟩
  · have H := Lib.hid h
    have HN := Lib.hid (add_no1 h)
    clear h HF
    go_enter Try.func47, Try.ntmps47
    go_wp2_with fail
    refine (specFirstFault_any _ _ _ _ HV.out).mono ?_
    intro r w2 hp
    obtain ⟨rfl, b2⟩ := HP.out _ _ _ hp
    have HB2 := Lib.hid b2
    have HV2 := Lib.hid (HV.out.keep (SameAt.of_below b2))
    clear b2 hp
    go_wp2_with fail
    refine (specTableOk_any _ _ _ _ HV2.out).mono ?_
    rintro r w' ⟨rfl, rfl⟩
    rw [H.out]
    go_wp2_with fail
    go_ret
    exact ⟨ret_bool HN.out.symm, HB2.out⟩

theorem measR_no {n : Int} {t : List Int} (h : addB n t = false) : measR n t = [] := by rw [measR, h]; rfl

theorem measR_yes {n : Int} {t : List Int} (h : addB n t = true) : measR n t = measL n t := by rw [measR, if_pos h]

theorem meas_at {m : Nat} {t : List Int} {k : Nat} (h : k < m) : (measL (m : Int) t)[k]? = some (tget t (2 ^ k)) := by
  rw [measL, Int.toNat_natCast, List.getElem?_map, List.getElem?_range h]; rfl

end Go.Proofs.Yteljcicdibbhdaa
