/- From the condition that the tables of package math/bits are laid to the cells that the walks read; a world that meets it. -/
import Derived.Test.YtnleljofoljdkaaDoorParts6
import Derived.ProofKit
import Derived.LaidMore
import Derived.OpenShut
import Derived.ShutString
import Derived.ChangeOld
import Derived.Stop.Joined
namespace Go.Proofs.YtnleljofoljdkaaDoor
open Go.ChangeShapes Go.WideShapes Go.ChangeAt Go.WideMaps Go.WideElems Go.RowKit
set_option linter.unusedVariables false

theorem tabOwn : ownKnob Tryd.prog.godebug = none := by kernel_rfl
theorem tabLaidOut : laidOutB Tryd.prog = true := by kernel_rfl
theorem tabG0 : Tryd.prog.globalNamed "math/bits.deBruijn32tab" = some 0 := by kernel_rfl
theorem tabG1 : Tryd.prog.globalNamed "math/bits.deBruijn64tab" = some 1 := by kernel_rfl
theorem tabT1 : (Tryd.prog.globals[1]?).map (·.type) = some 57 := by kernel_rfl
theorem tabCells : Tryd.prog.cellsOf 5 = 1 := by kernel_rfl

def laidList : List (String × DataW Unit) := [("math/bits.deBruijn32tab", Rows.laid_math_bits_deBruijn32tab), ("math/bits.deBruijn64tab", Rows.laid_math_bits_deBruijn64tab)]

theorem arr_cell {H : Type} {enc : TypeId × Value → H} {P : Program} {w : World} {base : Nat} {sp : Nat → Bool} {held : Bool} {fuel n : Nat} {t e : TypeId} {cs : List Value} {ds : List (DataW H)} {p : List MemPlace}
    (ht : P.underlying t = some (.array n e)) (he : P.underlying e = some (.int .u8)) (hc : P.cellsOf e = 1) (h : DataW.trod enc P w base sp held fuel t cs = some (.agg ds, p)) (j : Nat) (hj : j < n) (k : Int)
    (hk : ds[j]? = some (.lit (.int .u8 k))) : cs[j]? = some (.int .u8 k) := by
  obtain ⟨xs, m, rfl, hx1, hlen, hn, hel⟩ := DataW.trod_array ht h
  simp only [Prod.mk.injEq, DataW.agg.injEq] at hx1
  have h1 := hel j hj
  rw [hc] at h1
  have hxj : xs[j]? = some xs[j] := List.getElem?_eq_getElem (by omega)
  rw [hxj] at h1
  obtain ⟨r, e1, e2, -⟩ := DataW.trod_int he h1
  have e3 : ds[j]? = some xs[j].1 := by rw [hx1.1, List.getElem?_map, hxj]; rfl
  rw [hk] at e3
  have e4 := Option.some.inj e3
  rw [e2] at e4
  simp only [DataW.lit.injEq, Lit.int.injEq, true_and] at e4
  subst e4
  rw [Nat.mul_one] at e1
  have e5 : ((cs.drop j).take 1)[0]? = some (Value.int .u8 k) := by rw [e1]; rfl
  rw [List.getElem?_take] at e5
  simpa using e5

theorem tab_of_laid {W : World} (h : laidMetH Tryd.prog laidList W) : Tab W := by
  rw [MakeChecks.laidMetH_plain _ _ _ (by kernel_rfl)] at h
  obtain ⟨ps, ⟨g0, t0, cs0, f0, p0, q0, hg0, ht0, hv0, hd0, ⟨g1, t1, cs1, f1, p1, q1, hg1, ht1, hv1, hd1, _, _⟩, _⟩, _, _⟩ := h
  obtain rfl := Option.some.inj (tabG1.symm.trans hg1)
  obtain rfl := Option.some.inj (tabT1.symm.trans ht1)
  have hcell : ∀ j k, j < 64 → (match (Rows.laid_math_bits_deBruijn64tab : DataW Unit) with | .agg ds => ds[j]? | _ => none) = some (.lit (.int .u8 k)) → W.cell? ⟨1, j, none⟩ = some (.int .u8 k) := by
    intro j k hj hk
    rw [World.var?_cell hg1 hv1 j]
    have := arr_cell Tryd.underlying57 Tryd.underlying5 tabCells hd1 j hj k hk
    rw [← this]
    exact (Array.getElem?_toList).symm
  exact ⟨hcell 0 0 (by decide) rfl, hcell 1 1 (by decide) rfl, hcell 3 2 (by decide) rfl, hcell 7 3 (by decide) rfl⟩

/-- the door's own heap meets the condition -/
theorem door_met (os : Os) (args : Array Value) : laidMetH Tryd.prog laidList ((World.doorLaid Tryd.prog 400 os).forCall (fun _ _ => 0) ⟨#[], args, []⟩).memory :=
  laidMetH_of_parts3 (fuel := 8) (laidMet_of_run' 8 (by kernel_rfl) (by kernel_rfl)) (by kernel_rfl) (by kernel_rfl)

end Go.Proofs.YtnleljofoljdkaaDoor
