/- What is drawn for chapter 4: measures, with events, gambles, books. Conditions: a row of bytes that came in. -/
import Derived.Test.YtnkgnhnggjoglaaDm
import Derived.Test.YtnkgnhnggjoglaaDi
import Derived.Test.YtnkgnhnggjoglaaDw
import Derived.Test.YtnkgnhnggjoglaaDt
import Derived.Test.YtnkgnhnggjoglaaMe
namespace Go.Proofs.Ytnkgnhnggjoglaa
open Go.RowKit
set_option linter.unusedVariables false

/-- a fresh row of at most four numbers from 0 to 37 -/
def DrawMea (w : World) (e : Ending) (w' : World) : Prop := ∃ v xs, e = .returned v ∧ IOwn w' w.heap.size v xs ∧ xs.length ≤ 4 ∧ Bnd 37 xs ∧ Below w.heap.size w w'

/-- two fresh rows -/
def DrawTwoR (w : World) (e : Ending) (w' : World) : Prop := ∃ (v u : Value) (xs ys : List Int), e = .returned (.tuple #[v, u]) ∧ IOwn w' w.heap.size v xs ∧ IOwn w' w.heap.size u ys ∧ xs.length ≤ 8 ∧ ys.length ≤ 8 ∧ Below w.heap.size w w' ∧ (∀ g, v.ownBlock = some g → u.ownBlock ≠ some g)

theorem GamRel.ne {w2 w3 : World} {R Q : Nat} {v u : Value} {xs ys : List Int} {b : Nat} (h : IOwn w2 b v xs) (k : GamRel w2 R Q u ys w3) : ∀ g, v.ownBlock = some g → u.ownBlock ≠ some g := by
  intro g hg hu
  have h1 := (h.ge g hg).2
  have h2 := (k.2.1.ge g hu).1
  omega

set_option maxHeartbeats 1000000 in
theorem drawMixedMeasure_any (w : World) (a : Option Addr) (len cap : Nat) (zs : List Int) (h : IsRowC .u8 w a len cap zs) :
    Calls Try.prog 41 #[.slice a len cap] w (DrawTwoR w) := by
  go_enter Try.func41, Try.ntmps41
  go_wp2_with fail
  refine (open_at _ w.heap.size a len cap zs rfl h).mono ?_
  rintro e w1 ⟨rfl, d1, b1, s1⟩
  have B1 := Lib.hid b1
  have HLT : Hid (w.heap.size < w1.heap.size) := Lib.hid d1.2.2
  go_wp2_with fail
  refine (pick_any _ w.heap.size 0 _ (by decide) d1.1).mono ?_
  rintro e w2 ⟨v1, rfl, ⟨p1, p2, -⟩, k1⟩
  have p2 := p2 (by decide)
  have D2 := Lib.hid (d1.picked k1)
  clear d1 b1 h k1
  go_wp2_with fail
  refine (l20Measure_any _ w.heap.size 1 _ _ (by decide) D2.out.1 (by omega) (by omega) (by decide) (by decide)).mono ?_
  rintro e w3 ⟨v, xs, rfl, h3, hl, ha⟩
  have H3 := Lib.hid h3
  clear h3 ha
  go_wp2_with fail
  refine (l20Measure_any _ w.heap.size 9 _ _ (by decide) H3.out.1 (by omega) (by omega) (by decide) (by decide)).mono ?_
  rintro e w4 ⟨u, ys, rfl, h4, hl2, ha2⟩
  have B2 : Below w.heap.size w w2 := below_dr B1.out D2.out (Nat.le_refl _)
  have B3 : Below w.heap.size w w3 := B2.grown H3.out.2.2.1 B2.size (fun g hg => by injection hg with hg; omega)
  have B4 := Lib.hid (B3.grown h4.2.2.1 B3.size (fun g hg => by injection hg with hg; omega))
  have s2 : w1.heap.size ≤ w2.heap.size := D2.out.size
  have O3 := Lib.hid ((far_grownI h4.2.2.1 H3.out.2.1 (by have := HLT.out; omega)).base (base' := w.heap.size) B2.size)
  have O4 := Lib.hid (h4.2.1.base (base' := w.heap.size) B3.size)
  have NE := Lib.hid (GamRel.ne H3.out.2.1 h4)
  clear B2 B3 h4 ha2 H3 D2 B1 s2 HLT
  go_wp2_with fail
  go_ret2
  exact ⟨_, _, _, _, rfl, O3.out, O4.out, by omega, by omega, B4.out, NE.out⟩

/-- a measure and an event -/
def DrawMeaEv (w : World) (e : Ending) (w' : World) : Prop := ∃ (v : Value) (xs : List Int) (x : Int), e = .returned (.tuple #[v, .int .i64 x]) ∧ IOwn w' w.heap.size v xs ∧ xs.length ≤ 4 ∧ Below w.heap.size w w'

set_option maxHeartbeats 4000000 in
theorem drawGrainsOn_any (w : World) (a : Option Addr) (len cap : Nat) (zs : List Int) (h : IsRowC .u8 w a len cap zs) :
    Calls Try.prog 42 #[.slice a len cap] w (DrawMeaEv w) := by
  go_enter Try.func42, Try.ntmps42
  go_wp2_with fail
  refine (open_at _ w.heap.size a len cap zs rfl h).mono ?_
  rintro e w1 ⟨rfl, d1, b1, s1⟩
  have B1 := Lib.hid b1
  go_wp2_with fail
  refine (pick_any _ w.heap.size 0 _ (by decide) d1.1).mono ?_
  rintro e w2 ⟨v1, rfl, ⟨p1, p2, -⟩, k1⟩
  have p2 := p2 (by decide)
  have D2 := Lib.hid (d1.picked k1)
  clear d1 b1 h k1
  obtain rfl | rfl | rfl | rfl : v1 = 0 ∨ v1 = 1 ∨ v1 = 2 ∨ v1 = 3 := by omega
  all_goals
    clear p1 p2
    have HA := Lib.hid D2.out.drew
    go_wp2_with fail
    go_region_with (first
      | (go_at_call 55; refine (pick_any _ w.heap.size 10 _ (by decide) H4.out.1).mono ?_; rintro e w5 ⟨v3, rfl, ⟨p5, p6, -⟩, k1⟩; have p6 := p6 (by decide); have H5 := Lib.hid (H4.out.picked k1); clear k1)
      | (go_at_call 55; refine (pick_any _ w.heap.size 9 _ (by decide) H3.out.1).mono ?_; rintro e w4 ⟨v2, rfl, ⟨p3, p4, -⟩, k1⟩; have p4 := p4 (by decide); have H4 := Lib.hid (H3.out.picked k1); clear k1)
      | (go_at_call 56; refine (l20Measure_any _ w.heap.size 1 _ _ (by decide) HA.out.1 (by decide) (by decide) (by decide) (by decide)).mono ?_; rintro e w3 ⟨v, xs, rfl, h3, hl, ha⟩; have H3 := Lib.hid h3; clear h3 ha))
    all_goals
      have B2 : Below w.heap.size w w2.drew := (below_dr B1.out D2.out (Nat.le_refl _)).drew
      have B5 := Lib.hid (B2.grown H5.out.2.2.1 B2.size (fun g hg => by injection hg with hg; omega))
      have O5 := Lib.hid (H5.out.2.1.base (base' := w.heap.size) B2.size)
      clear B2
      go_wp2_with fail
      go_ret2
      exact ⟨_, _, _, rfl, O5.out, hl, B5.out⟩

end Go.Proofs.Ytnkgnhnggjoglaa
