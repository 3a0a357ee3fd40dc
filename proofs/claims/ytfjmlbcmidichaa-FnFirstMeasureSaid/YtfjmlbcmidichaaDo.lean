/- What is drawn for chapter 4: books; a measure and a book. Conditions: a row of bytes that came in. -/
import Derived.Test.YtfjmlbcmidichaaDn
import Derived.Test.YtfjmlbcmidichaaDw
namespace Go.Proofs.Ytfjmlbcmidichaa
open Go.RowKit
set_option linter.unusedVariables false

set_option maxHeartbeats 1000000 in
theorem drawFirstMeasure_any (w : World) (a : Option Addr) (len cap : Nat) (zs : List Int) (h : IsRowC .u8 w a len cap zs) :
    Calls Try.prog 17 #[.slice a len cap] w (DrawBk w) := by
  go_enter Try.func17, Try.ntmps17
  go_wp2_with fail
  refine (open_at _ w.heap.size a len cap zs rfl h).mono ?_
  rintro e w1 ⟨rfl, d1, b1, s1⟩
  have D1 := Lib.hid d1
  have B1 := Lib.hid b1
  clear d1 b1 h
  go_wp2_with fail
  refine (l20Book_any _ w.heap.size 0 12 (by decide) D1.out.1 (by decide) (by decide)).mono ?_
  rintro e w2 ⟨x, v, qs, rfl, o2, hl, d2⟩
  have O2 := Lib.hid (o2.base (base' := w.heap.size) B1.out.size)
  have B2 := Lib.hid (below_dr B1.out d2 (Nat.le_refl _))
  clear o2 d2 D1 B1
  go_wp2_with fail
  go_ret2
  exact ⟨x, v, qs, rfl, O2.out, hl, B2.out⟩

set_option maxHeartbeats 1000000 in
theorem drawFairOk_any (w : World) (a : Option Addr) (len cap : Nat) (zs : List Int) (h : IsRowC .u8 w a len cap zs) :
    Calls Try.prog 24 #[.slice a len cap] w (DrawBk w) := by
  go_enter Try.func24, Try.ntmps24
  go_wp2_with fail
  refine (open_at _ w.heap.size a len cap zs rfl h).mono ?_
  rintro e w1 ⟨rfl, d1, b1, s1⟩
  have D1 := Lib.hid d1
  have B1 := Lib.hid b1
  clear d1 b1 h
  go_wp2_with fail
  refine (l20Book_any _ w.heap.size 0 12 (by decide) D1.out.1 (by decide) (by decide)).mono ?_
  rintro e w2 ⟨x, v, qs, rfl, o2, hl, d2⟩
  have O2 := Lib.hid (o2.base (base' := w.heap.size) B1.out.size)
  have B2 := Lib.hid (below_dr B1.out d2 (Nat.le_refl _))
  clear o2 d2 D1 B1
  go_wp2_with fail
  go_ret2
  exact ⟨x, v, qs, rfl, O2.out, hl, B2.out⟩

set_option maxHeartbeats 1000000 in
theorem drawCountMeasures_any (w : World) (a : Option Addr) (len cap : Nat) (zs : List Int) (h : IsRowC .u8 w a len cap zs) :
    Calls Try.prog 28 #[.slice a len cap] w (DrawBk w) := by
  go_enter Try.func28, Try.ntmps28
  go_wp2_with fail
  refine (open_at _ w.heap.size a len cap zs rfl h).mono ?_
  rintro e w1 ⟨rfl, d1, b1, s1⟩
  have D1 := Lib.hid d1
  have B1 := Lib.hid b1
  clear d1 b1 h
  go_wp2_with fail
  refine (l20Book_any _ w.heap.size 0 12 (by decide) D1.out.1 (by decide) (by decide)).mono ?_
  rintro e w2 ⟨x, v, qs, rfl, o2, hl, d2⟩
  have O2 := Lib.hid (o2.base (base' := w.heap.size) B1.out.size)
  have B2 := Lib.hid (below_dr B1.out d2 (Nat.le_refl _))
  clear o2 d2 D1 B1
  go_wp2_with fail
  go_ret2
  exact ⟨x, v, qs, rfl, O2.out, hl, B2.out⟩

/-- a row of numbers and a book -/
def DrawMeaBk (w : World) (e : Ending) (w' : World) : Prop := ∃ (v u : Value) (xs : List Int) (qs : List Qt), e = .returned (.tuple #[v, u]) ∧ IOwn w' w.heap.size v xs ∧ QOwn w' w.heap.size u qs ∧ xs.length ≤ 4 ∧ qs.length ≤ 4 ∧ Below w.heap.size w w'

theorem below_grow {w w' : World} (h : Below w.heap.size w w') : w.grownBy w' none := ⟨h.os, h.tape, h.output, h.size, fun k hk _ => h.block k hk⟩

theorem firstR_len4 (n : Int) (qs : List Qt) : (firstR n qs).length ≤ 4 := by
  unfold firstR
  split
  · next h =>
    obtain ⟨h1, h2⟩ := ((bokB_iff _ _).1 h).1
    cases hf : firstFit n.toNat qs with
    | none => simp
    | some l =>
      have hm := List.mem_of_find?_eq_some hf
      obtain ⟨k, hk⟩ : ∃ k, n.toNat = k + 1 := ⟨n.toNat - 1, by omega⟩
      rw [hk] at hm
      have := ((mem_lay k 36 l).1 hm).1
      simp only [Option.map_some, Option.getD_some, natL_len]
      omega
  · simp

/-- what is at hand once the book is drawn -/
def FitSt (w w1 : World) (P : Nat) (u : Value) (qs : List Qt) (wr : World) : Prop := DR w1 w.heap.size P wr ∧ QOwn wr w1.heap.size u qs ∧ Below w.heap.size w w1 ∧ w.heap.size < w1.heap.size

theorem FitSt.picked {w w1 wr w' : World} {P Q : Nat} {u : Value} {qs : List Qt} (h : FitSt w w1 P u qs wr) (k : Picked w.heap.size Q wr w') : FitSt w w1 Q u qs w' :=
  ⟨h.1.picked k, GOwn.dr h.2.1 (⟨k.rd, k.grown, h.1.1.lt⟩ : DR wr w.heap.size Q w') h.2.2.2, h.2.2⟩

theorem FitSt.fin {w w1 wr w' : World} {P Q : Nat} {u v : Value} {qs : List Qt} {xs : List Int} (h : FitSt w w1 P u qs wr) (k : GamRel wr w.heap.size Q v xs w') : QOwn w' w.heap.size u qs ∧ IOwn w' w.heap.size v xs ∧ Below w.heap.size w w' := by
  have b1 : Below w.heap.size w wr := below_dr h.2.2.1 h.1 (Nat.le_refl _)
  refine ⟨(GOwn.dr h.2.1 (⟨k.1, k.2.2.1, h.1.1.lt⟩ : DR wr w.heap.size Q w') h.2.2.2).base h.2.2.1.size, k.2.1.base b1.size, b1.grown k.2.2.1 b1.size (fun g hg => by injection hg with hg; omega)⟩

end Go.Proofs.Ytfjmlbcmidichaa
