/- What is drawn for chapter 5: books; a book and stakes. Conditions: a row of bytes that came in. -/
import Derived.Test.YtfjmlbcmidichaaSc
import Derived.Test.YtfjmlbcmidichaaDw
namespace Go.Proofs.Ytfjmlbcmidichaa
open Go.RowKit
set_option linter.unusedVariables false

set_option maxHeartbeats 1000000 in
theorem drawLosingStakes_any (w : World) (a : Option Addr) (len cap : Nat) (zs : List Int) (h : IsRowC .u8 w a len cap zs) :
    Calls Try.prog 41 #[.slice a len cap] w (DrawBk w) := by
  go_enter Try.func41, Try.ntmps41
  go_wp2_with fail
  refine (open_at _ w.heap.size a len cap zs rfl h).mono ?_
  rintro e w1 ⟨rfl, d1, b1, s1⟩
  have D1 := Lib.hid d1
  have B1 := Lib.hid b1
  clear d1 b1 h
  go_wp2_with fail
  refine (l20Book_any _ w.heap.size 0 12 (by decide) D1.out.1 (by decide) (by decide)).mono ?_
  rintro e w2 ⟨x, v, qs, rfl, o2, hl, d2⟩
  have O2 := Lib.hid (o2.base (base' := w.heap.size) B1.out.size)
  have B2 := Lib.hid (below_dr B1.out d2 (Nat.le_refl _))
  clear o2 d2 D1 B1
  go_wp2_with fail
  go_ret2
  exact ⟨x, v, qs, rfl, O2.out, hl, B2.out⟩

set_option maxHeartbeats 1000000 in
theorem drawSafeOk_any (w : World) (a : Option Addr) (len cap : Nat) (zs : List Int) (h : IsRowC .u8 w a len cap zs) :
    Calls Try.prog 45 #[.slice a len cap] w (DrawBk w) := by
  go_enter Try.func45, Try.ntmps45
  go_wp2_with fail
  refine (open_at _ w.heap.size a len cap zs rfl h).mono ?_
  rintro e w1 ⟨rfl, d1, b1, s1⟩
  have D1 := Lib.hid d1
  have B1 := Lib.hid b1
  clear d1 b1 h
  go_wp2_with fail
  refine (l20Book_any _ w.heap.size 0 12 (by decide) D1.out.1 (by decide) (by decide)).mono ?_
  rintro e w2 ⟨x, v, qs, rfl, o2, hl, d2⟩
  have O2 := Lib.hid (o2.base (base' := w.heap.size) B1.out.size)
  have B2 := Lib.hid (below_dr B1.out d2 (Nat.le_refl _))
  clear o2 d2 D1 B1
  go_wp2_with fail
  go_ret2
  exact ⟨x, v, qs, rfl, O2.out, hl, B2.out⟩

set_option maxHeartbeats 1000000 in
theorem drawSureLossOf_any (w : World) (a : Option Addr) (len cap : Nat) (zs : List Int) (h : IsRowC .u8 w a len cap zs) :
    Calls Try.prog 48 #[.slice a len cap] w (DrawBk w) := by
  go_enter Try.func48, Try.ntmps48
  go_wp2_with fail
  refine (open_at _ w.heap.size a len cap zs rfl h).mono ?_
  rintro e w1 ⟨rfl, d1, b1, s1⟩
  have D1 := Lib.hid d1
  have B1 := Lib.hid b1
  clear d1 b1 h
  go_wp2_with fail
  refine (l20Book_any _ w.heap.size 0 12 (by decide) D1.out.1 (by decide) (by decide)).mono ?_
  rintro e w2 ⟨x, v, qs, rfl, o2, hl, d2⟩
  have O2 := Lib.hid (o2.base (base' := w.heap.size) B1.out.size)
  have B2 := Lib.hid (below_dr B1.out d2 (Nat.le_refl _))
  clear o2 d2 D1 B1
  go_wp2_with fail
  go_ret2
  exact ⟨x, v, qs, rfl, O2.out, hl, B2.out⟩

theorem lossR_len (n : Int) (qs : List Qt) : (lossR n qs).length ≤ 4 := by
  rw [lossR]
  cases hl : losing n qs with
  | none => simp
  | some ss =>
    obtain ⟨h1, h2, -⟩ := losing_some hl
    have := ((bokB_iff _ _).1 h1).2.1
    show ss.length ≤ 4
    omega

theorem below_grow5 {w w' : World} (h : Below w.heap.size w w') : w.grownBy w' none := ⟨h.os, h.tape, h.output, h.size, fun k hk _ => h.block k hk⟩

/-- what is at hand once the book is drawn -/
def BkSt (w w1 : World) (P : Nat) (u : Value) (qs : List Qt) (wr : World) : Prop := DR w1 w.heap.size P wr ∧ QOwn wr w1.heap.size u qs ∧ Below w.heap.size w w1 ∧ w.heap.size < w1.heap.size

theorem BkSt.picked {w w1 wr w' : World} {P Q : Nat} {u : Value} {qs : List Qt} (h : BkSt w w1 P u qs wr) (k : Picked w.heap.size Q wr w') : BkSt w w1 Q u qs w' :=
  ⟨h.1.picked k, GOwn.dr h.2.1 (⟨k.rd, k.grown, h.1.1.lt⟩ : DR wr w.heap.size Q w') h.2.2.2, h.2.2⟩

theorem BkSt.fin {w w1 wr w' : World} {P Q : Nat} {u v : Value} {qs : List Qt} {xs : List Int} (h : BkSt w w1 P u qs wr) (k : GamRel wr w.heap.size Q v xs w') : QOwn w' w.heap.size u qs ∧ IOwn w' w.heap.size v xs ∧ Below w.heap.size w w' := by
  have b1 : Below w.heap.size w wr := below_dr h.2.2.1 h.1 (Nat.le_refl _)
  refine ⟨(GOwn.dr h.2.1 (⟨k.1, k.2.2.1, h.1.1.lt⟩ : DR wr w.heap.size Q w') h.2.2.2).base h.2.2.1.size, k.2.1.base b1.size, b1.grown k.2.2.1 b1.size (fun g hg => by injection hg with hg; omega)⟩

set_option maxHeartbeats 4000000 in
theorem drawLosesBy_any (w : World) (a : Option Addr) (len cap : Nat) (zs : List Int) (h : IsRowC .u8 w a len cap zs) :
    Calls Try.prog 38 #[.slice a len cap] w (DrawBal w) := by
  go_enter Try.func38, Try.ntmps38
  go_wp2_with fail
  refine (open_at _ w.heap.size a len cap zs rfl h).mono ?_
  rintro e w1 ⟨rfl, d1, b1, s1⟩
  have D1 := Lib.hid d1
  have B1 := Lib.hid b1
  clear d1 b1 h
  go_wp2_with fail
  refine (l20Book_any _ w.heap.size 0 14 (by decide) D1.out.1 (by decide) (by decide)).mono ?_
  rintro e w2 ⟨x, u, qs, rfl, o2, hl, d2⟩
  obtain ⟨A, c, rfl, hlc, hm⟩ := (o2.rd qC_len).form
  have HR := Lib.hid (o2.rd qC_len)
  have HS2 : Hid (BkSt w w1 24 (.slice A qs.length c) qs w2) := Lib.hid ⟨d2, o2, B1.out, by omega⟩
  clear o2 d2 D1
  go_wp2_with fail
  refine (specLosingStakes_any w2 x _ qs HR.out).mono ?_
  rintro e w3 ⟨v, rfl, o3, b3⟩
  have HS3 : Hid (BkSt w w1 24 (.slice A qs.length c) qs w3) := Lib.hid ⟨HS2.out.1.grown (below_grow5 b3) (fun g hg => by cases hg) |> fun d => ⟨d.1, d.2⟩, HS2.out.2.1.keep (SameAt.of_below b3), HS2.out.2.2⟩
  have HG3 : Hid (GamRel w2 w.heap.size 24 v (lossR x qs) w3) := Lib.hid ⟨HS3.out.1.1, o3, ⟨b3.os, b3.tape, b3.output, b3.size, fun k hk _ => b3.block k hk⟩, HS2.out.1.1.lt⟩
  have hl3 := lossR_len x qs
  obtain ⟨xs, hxs⟩ : ∃ xs, lossR x qs = xs := ⟨_, rfl⟩
  rw [hxs] at HG3 hl3
  obtain ⟨t, ht⟩ : ∃ t, lossOk x qs = t := ⟨_, rfl⟩
  rw [ht]
  clear o3 b3 hxs ht HR
  cases t
  · go_wp2_with fail
    refine (l20Stakes_any _ w.heap.size 24 qs.length (by decide) HS3.out.1.1 hl).mono ?_
    rintro e w4 ⟨y, ss, rfl, g4, hl4⟩
    have HF := Lib.hid (HS3.out.fin g4)
    clear g4
    go_wp2_with fail
    go_ret3
    exact ⟨x, _, y, qs, ss, rfl, HF.out.1, HF.out.2.1, hl, hl4, HF.out.2.2⟩
  · go_wp2_with fail
    refine (pick_any _ w.heap.size 24 _ (by decide) HS3.out.1.1).mono ?_
    rintro e w4 ⟨v2, rfl, ⟨p3, p4, -⟩, k1⟩
    have p4 := p4 (by decide)
    have HS4 := Lib.hid (HS3.out.picked k1)
    have HF0 : Hid (QOwn w4 w.heap.size (.slice A qs.length c) qs ∧ IOwn w4 w.heap.size v xs ∧ Below w.heap.size w w4) := Lib.hid (HS2.out.fin (HG3.out.picked k1))
    clear k1 HS3 HG3 HS2
    obtain rfl | rfl : v2 = 0 ∨ v2 = 1 := by omega
    · go_wp2_with fail
      go_ret3
      exact ⟨x, _, v, qs, xs, rfl, HF0.out.1, HF0.out.2.1, hl, by omega, HF0.out.2.2⟩
    · go_wp2_with fail
      refine (l20Stakes_any _ w.heap.size 25 qs.length (by decide) HS4.out.1.1 hl).mono ?_
      rintro e w5 ⟨y, ss, rfl, g4, hl4⟩
      have HF := Lib.hid (HS4.out.fin g4)
      clear g4
      go_wp2_with fail
      go_ret3
      exact ⟨x, _, y, qs, ss, rfl, HF.out.1, HF.out.2.1, hl, hl4, HF.out.2.2⟩

end Go.Proofs.Ytfjmlbcmidichaa
