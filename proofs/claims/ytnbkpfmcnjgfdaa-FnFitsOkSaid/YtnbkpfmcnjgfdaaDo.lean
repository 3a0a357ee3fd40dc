/- What is drawn for chapter 4: books; a measure and a book. Conditions: a row of bytes that came in. -/
import Derived.Test.YtnbkpfmcnjgfdaaDn
import Derived.Test.YtnbkpfmcnjgfdaaDw
namespace Go.Proofs.Ytnbkpfmcnjgfdaa
open Go.RowKit
set_option linter.unusedVariables false

/-- a row of numbers and a book -/
def DrawMeaBk (w : World) (e : Ending) (w' : World) : Prop := ∃ (v u : Value) (xs : List Int) (qs : List Qt), e = .returned (.tuple #[v, u]) ∧ IOwn w' w.heap.size v xs ∧ QOwn w' w.heap.size u qs ∧ xs.length ≤ 4 ∧ qs.length ≤ 4 ∧ Below w.heap.size w w'

theorem below_grow {w w' : World} (h : Below w.heap.size w w') : w.grownBy w' none := ⟨h.os, h.tape, h.output, h.size, fun k hk _ => h.block k hk⟩

theorem firstR_len4 (n : Int) (qs : List Qt) : (firstR n qs).length ≤ 4 := by
  unfold firstR
  split
  · next h =>
    obtain ⟨h1, h2⟩ := ((bokB_iff _ _).1 h).1
    cases hf : firstFit n.toNat qs with
    | none => simp
    | some l =>
      have hm := List.mem_of_find?_eq_some hf
      obtain ⟨k, hk⟩ : ∃ k, n.toNat = k + 1 := ⟨n.toNat - 1, by omega⟩
      rw [hk] at hm
      have := ((mem_lay k 36 l).1 hm).1
      simp only [Option.map_some, Option.getD_some, natL_len]
      omega
  · simp

/-- what is at hand once the book is drawn -/
def FitSt (w w1 : World) (P : Nat) (u : Value) (qs : List Qt) (wr : World) : Prop := DR w1 w.heap.size P wr ∧ QOwn wr w1.heap.size u qs ∧ Below w.heap.size w w1 ∧ w.heap.size < w1.heap.size

theorem FitSt.picked {w w1 wr w' : World} {P Q : Nat} {u : Value} {qs : List Qt} (h : FitSt w w1 P u qs wr) (k : Picked w.heap.size Q wr w') : FitSt w w1 Q u qs w' :=
  ⟨h.1.picked k, GOwn.dr h.2.1 (⟨k.rd, k.grown, h.1.1.lt⟩ : DR wr w.heap.size Q w') h.2.2.2, h.2.2⟩

theorem FitSt.fin {w w1 wr w' : World} {P Q : Nat} {u v : Value} {qs : List Qt} {xs : List Int} (h : FitSt w w1 P u qs wr) (k : GamRel wr w.heap.size Q v xs w') : QOwn w' w.heap.size u qs ∧ IOwn w' w.heap.size v xs ∧ Below w.heap.size w w' := by
  have b1 : Below w.heap.size w wr := below_dr h.2.2.1 h.1 (Nat.le_refl _)
  refine ⟨(GOwn.dr h.2.1 (⟨k.1, k.2.2.1, h.1.1.lt⟩ : DR wr w.heap.size Q w') h.2.2.2).base h.2.2.1.size, k.2.1.base b1.size, b1.grown k.2.2.1 b1.size (fun g hg => by injection hg with hg; omega)⟩

set_option maxHeartbeats 4000000 in
theorem drawFitsOk_any (w : World) (a : Option Addr) (len cap : Nat) (zs : List Int) (h : IsRowC .u8 w a len cap zs) :
    Calls Try.prog 14 #[.slice a len cap] w (DrawMeaBk w) := by
  go_enter Try.func14, Try.ntmps14
  go_wp2_with fail
  refine (open_at _ w.heap.size a len cap zs rfl h).mono ?_
  rintro e w1 ⟨rfl, d1, b1, s1⟩
  have D1 := Lib.hid d1
  have B1 := Lib.hid b1
  clear d1 b1 h
  go_wp2_with fail
  refine (l20Book_any _ w.heap.size 0 14 (by decide) D1.out.1 (by decide) (by decide)).mono ?_
  rintro e w2 ⟨x, u, qs, rfl, o2, hl, d2⟩
  have HR := Lib.hid (o2.rd qC_len)
  have HS2 : Hid (FitSt w w1 24 u qs w2) := Lib.hid ⟨d2, o2, B1.out, by omega⟩
  clear o2 d2 D1
  go_wp2_with fail
  refine (specFirstMeasure_any w2 x u qs HR.out).mono ?_
  rintro e w3 ⟨v, rfl, o3, b3⟩
  have HS3 : Hid (FitSt w w1 24 u qs w3) := Lib.hid ⟨HS2.out.1.grown (below_grow b3) (fun g hg => by cases hg) |> fun d => ⟨d.1, d.2⟩, HS2.out.2.1.keep (SameAt.of_below b3), HS2.out.2.2⟩
  have HG3 : Hid (GamRel w2 w.heap.size 24 v (firstR x qs) w3) := Lib.hid ⟨HS3.out.1.1, o3, ⟨b3.os, b3.tape, b3.output, b3.size, fun k hk _ => b3.block k hk⟩, HS2.out.1.1.lt⟩
  have hl3 := firstR_len4 x qs
  obtain ⟨xs, hxs⟩ : ∃ xs, firstR x qs = xs := ⟨_, rfl⟩
  rw [hxs] at HG3 hl3
  obtain ⟨t, ht⟩ : ∃ t, firstB x qs = t := ⟨_, rfl⟩
  rw [ht]
  clear o3 b3 hxs ht HR
  cases t
  · by_cases h1 : x < 1
    · go_wp2_with fail
      refine (l20Measure_any _ w.heap.size 24 _ _ (by decide) HS3.out.1.1 (by omega) (by omega) (by decide) (by decide)).mono ?_
      rintro e w4 ⟨m, ms, rfl, h4, hl4, ha4⟩
      have HF := Lib.hid (HS3.out.fin h4)
      clear h4 ha4
      go_wp2_with fail
      go_ret2
      exact ⟨_, _, _, _, rfl, HF.out.2.1, HF.out.1, hl4, hl, HF.out.2.2⟩
    · have h1' : 1 ≤ x := by omega
      clear h1
      by_cases h2 : 4 < x
      · go_wp2_with fail
        refine (l20Measure_any _ w.heap.size 24 _ _ (by decide) HS3.out.1.1 (by omega) (by omega) (by decide) (by decide)).mono ?_
        rintro e w4 ⟨m, ms, rfl, h4, hl4, ha4⟩
        have HF := Lib.hid (HS3.out.fin h4)
        clear h4 ha4
        go_wp2_with fail
        go_ret2
        exact ⟨_, _, _, _, rfl, HF.out.2.1, HF.out.1, hl4, hl, HF.out.2.2⟩
      · have h2' : x ≤ 4 := by omega
        clear h2
        go_wp2_with fail
        refine (l20Measure_any _ w.heap.size 24 _ _ (by decide) HS3.out.1.1 (by omega) (by omega) (by decide) (by decide)).mono ?_
        rintro e w4 ⟨m, ms, rfl, h4, hl4, ha4⟩
        have HF := Lib.hid (HS3.out.fin h4)
        clear h4 ha4
        go_wp2_with fail
        go_ret2
        exact ⟨_, _, _, _, rfl, HF.out.2.1, HF.out.1, hl4, hl, HF.out.2.2⟩
  · go_wp2_with fail
    refine (pick_any _ w.heap.size 24 _ (by decide) HS3.out.1.1).mono ?_
    rintro e w4 ⟨v2, rfl, ⟨p3, p4, -⟩, k1⟩
    have p4 := p4 (by decide)
    have HS4 := Lib.hid (HS3.out.picked k1)
    have HF0 : Hid (QOwn w4 w.heap.size u qs ∧ IOwn w4 w.heap.size v xs ∧ Below w.heap.size w w4) := Lib.hid (HS2.out.fin (HG3.out.picked k1))
    clear k1 HS3 HG3 HS2
    by_cases h0 : 0 < v2
    · go_wp2_with fail
      go_ret2
      exact ⟨_, _, _, _, rfl, HF0.out.2.1, HF0.out.1, hl3, hl, HF0.out.2.2⟩
    · obtain rfl : v2 = 0 := by omega
      clear h0 p3 p4
      by_cases h1 : x < 1
      · go_wp2_with fail
        refine (l20Measure_any _ w.heap.size 25 _ _ (by decide) HS4.out.1.1 (by omega) (by omega) (by decide) (by decide)).mono ?_
        rintro e w5 ⟨m, ms, rfl, h4, hl4, ha4⟩
        have HF := Lib.hid (HS4.out.fin h4)
        clear h4 ha4
        go_wp2_with fail
        go_ret2
        exact ⟨_, _, _, _, rfl, HF.out.2.1, HF.out.1, hl4, hl, HF.out.2.2⟩
      · have h1' : 1 ≤ x := by omega
        clear h1
        by_cases h2 : 4 < x
        · go_wp2_with fail
          refine (l20Measure_any _ w.heap.size 25 _ _ (by decide) HS4.out.1.1 (by omega) (by omega) (by decide) (by decide)).mono ?_
          rintro e w5 ⟨m, ms, rfl, h4, hl4, ha4⟩
          have HF := Lib.hid (HS4.out.fin h4)
          clear h4 ha4
          go_wp2_with fail
          go_ret2
          exact ⟨_, _, _, _, rfl, HF.out.2.1, HF.out.1, hl4, hl, HF.out.2.2⟩
        · have h2' : x ≤ 4 := by omega
          clear h2
          go_wp2_with fail
          refine (l20Measure_any _ w.heap.size 25 _ _ (by decide) HS4.out.1.1 (by omega) (by omega) (by decide) (by decide)).mono ?_
          rintro e w5 ⟨m, ms, rfl, h4, hl4, ha4⟩
          have HF := Lib.hid (HS4.out.fin h4)
          clear h4 ha4
          go_wp2_with fail
          go_ret2
          exact ⟨_, _, _, _, rfl, HF.out.2.1, HF.out.1, hl4, hl, HF.out.2.2⟩

end Go.Proofs.Ytnbkpfmcnjgfdaa
