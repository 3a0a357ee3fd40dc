/- From the condition that the tables and the errors of package strconv are laid to what the walks read; a world that meets it. -/
import Derived.Test.YtfdlfgokoponmaaDoorZpc
import Derived.Test.YtfdlfgokoponmaaDoorRows
import Derived.ProofKit
import Derived.LaidMore
import Derived.OpenShut
import Derived.ShutString
import Derived.ChangeOld
import Derived.Stop.Joined
import Derived.Stop.LaidErr
import Derived.Lib.LaidTab
namespace Go.Proofs.YtfdlfgokoponmaaDoor
open Go.ChangeShapes Go.WideShapes Go.ChangeAt Go.WideMaps Go.WideElems Go.RowKit
set_option linter.unusedVariables false

theorem tabOwn : ownKnob Tryd.prog.godebug = none := by kernel_rfl
theorem tabLaidOut : laidOutB Tryd.prog = true := by kernel_rfl
theorem tabGP : Tryd.prog.globalNamed "internal/strconv.uint64pow10" = some 1 := by kernel_rfl
theorem tabTP : (Tryd.prog.globals[1]?).map (·.type) = some 118 := by kernel_rfl
theorem tabCP : Tryd.prog.cellsOf 118 = 20 := by kernel_rfl
theorem tabCE : Tryd.prog.cellsOf 103 = 1 := by kernel_rfl
theorem tabGS : Tryd.prog.globalNamed "strconv.ErrSyntax" = some 2 := by kernel_rfl
theorem tabTS : (Tryd.prog.globals[2]?).map (·.type) = some 84 := by kernel_rfl
theorem tabGR : Tryd.prog.globalNamed "strconv.ErrRange" = some 3 := by kernel_rfl
theorem tabTR : (Tryd.prog.globals[3]?).map (·.type) = some 84 := by kernel_rfl
theorem tabCS : Tryd.prog.cellsOf 135 = 1 := by kernel_rfl
theorem tabCT : Tryd.prog.cellsOf 9 = 1 := by kernel_rfl
theorem tabStar : "*" ++ "errors.errorString" = "*errors.errorString" := by decide
theorem tabRow (u : TypeId) (h : Tryd.prog.typeName? 3 u = some "*errors.errorString") : u = 133 :=
  typeName_ptr_named (nm := "errors.errorString") (by rw [tabStar]; kernel_rfl) (by kernel_rfl) (by decide) u (by rw [tabStar]; exact h)

def laidN : List (String × DataW Unit) := [("math/bits.deBruijn32tab", Rows.laid_math_bits_deBruijn32tab), ("math/bits.deBruijn64tab", Rows.laid_math_bits_deBruijn64tab), ("internal/strconv.uint64pow10", Rows.laid_internal_strconv_uint64pow10)]

def laidE : List (String × DataW Unit) := [("math/bits.deBruijn32tab", Rows.laid_math_bits_deBruijn32tab), ("math/bits.deBruijn64tab", Rows.laid_math_bits_deBruijn64tab), ("internal/strconv.uint64pow10", Rows.laid_internal_strconv_uint64pow10), ("strconv.ErrRange", Rows.laid_strconv_ErrRange), ("strconv.ErrSyntax", Rows.laid_strconv_ErrSyntax)]

theorem pow_data : (Rows.laid_internal_strconv_uint64pow10 : DataW Unit) = Lib.tabData .u64 Lib.pow10Tab := by kernel_rfl

theorem ntab_head {r : List (String × DataW Unit)} {W : World} (h : laidMet Tryd.prog (("internal/strconv.uint64pow10", Rows.laid_internal_strconv_uint64pow10) :: r) W) : NTab W := by
  rw [pow_data] at h
  exact Lib.tabIs_of_head tabGP tabTP Tryd.underlying118 Tryd.underlying103 tabCE tabCP h

theorem ntab_of_laid {W : World} (h : laidMetH Tryd.prog laidN W) : NTab W := by
  rw [MakeChecks.laidMetH_plain _ _ _ (by kernel_rfl)] at h
  have h1 : laidMet Tryd.prog (_ :: _ :: _ :: []) W := h
  exact ntab_head h1.tail.tail

theorem etab_of_laid {W : World} (h : laidMetH Tryd.prog laidE W) : NTab W ∧ ETab W := by
  rw [MakeChecks.laidMetH_plain _ _ _ (by kernel_rfl)] at h
  have h1 : laidMet Tryd.prog (_ :: _ :: _ :: _ :: _ :: []) W := h
  refine ⟨ntab_head h1.tail.tail, ?_⟩
  have h3 := h1.tail.tail.tail
  obtain ⟨a0, s0, hv0, -, -, -⟩ := laid_sentinel h3 tabGR tabTR Tryd.underlying84 tabRow Tryd.underlying133 Tryd.underlying135 rfl rfl Tryd.underlying9 tabCS tabCT
  obtain ⟨a1, s1, hv1, -, -, -⟩ := laid_sentinel h3.tail tabGS tabTS Tryd.underlying84 tabRow Tryd.underlying133 Tryd.underlying135 rfl rfl Tryd.underlying9 tabCS tabCT
  exact ⟨⟨_, _, hv1⟩, _, _, hv0⟩

/-- the door's own heap meets the conditions -/
theorem door_metN (os : Os) (args : Array Value) : laidMetH Tryd.prog laidN ((World.doorLaid Tryd.prog 400 os).forCall (fun _ _ => 0) ⟨#[], args, []⟩).memory :=
  laidMetH_of_parts3 (fuel := 8) (laidMet_of_run' 8 (by kernel_rfl) (by kernel_rfl)) (by kernel_rfl) (by kernel_rfl)

theorem door_metE (os : Os) (args : Array Value) : laidMetH Tryd.prog laidE ((World.doorLaid Tryd.prog 400 os).forCall (fun _ _ => 0) ⟨#[], args, []⟩).memory :=
  laidMetH_of_parts3 (fuel := 8) (laidMet_of_run' 8 (by kernel_rfl) (by kernel_rfl)) (by kernel_rfl) (by kernel_rfl)

end Go.Proofs.YtfdlfgokoponmaaDoor
