/-
  No cell of these rows narrows 'for every input' (looked for: loops, veiled, ifaces, maps, wideKeys, modest, calm, conditions, laid).
  DERIVED. THE GIVEN ROWS OF THIS SEAT. 10 by the template 'for every input the law returns true; each argument reads behind the call as it read before'; 0 by the template 'total and deterministic' (their statements: YtghmgnhiglmifaaTotals.lean).
  GIVEN WITH THE SEED: the statements are not yours to turn. If you find one false, say at which input.
  Laid BY PROGRAM, IN A SANDBOX (cutbox-rows.mjs): the forced cells as the released guide's own fill.sh prints them over the translation 9e7451e72f9e1479… (all of the seat's roots in one cut). By AI agents, Wed Nov 11 2026. No macro, syntax, notation, axiom, sorry.
-/
import Derived.Test.YtghmgnhiglmifaaChecked
import GoSem.Claim
import GoSem.ClaimJoined
import GoSem.ClaimMapViews
import Derived.JoinedTies
import Derived.KernelRfl
namespace Go.Proofs.Ytghmgnhiglmifaa
/- THE CELL 'sum', in the pinned program and in every row, IS THE sha256 OF THE DUMP (.gsa) THAT YtghmgnhiglmifaaProg.lean LOADS. Nothing in Lean hashes anything: it is a label: what it is worth is what the hold of that sum in a sandbox is worth. -/
noncomputable def Try.pinned : Pinned := { name := "ytghmgnhiglmifaa", sum := "9e7451e72f9e147969dd5363f135cfecc858738620cafba03cfefc8c63fcf315", checked := Try.checked }
namespace Rows
def none {H : Type} : Left H := { results := [], args := [] }

/-- 'laws.FnGivenBy': WHATEVER THE INPUT: true; the input reads as it did. -/
def fnGivenBySpec : ChangeSpec := { name := "fnGivenBy", fn := fun _ => fun
  | [d1, d2] => { results := [.lit (.bool true)], args := [d1, d2] }
  | _ => none }
def fnGivenByRow : OpenClaim := { program := "ytghmgnhiglmifaa", sum := "9e7451e72f9e147969dd5363f135cfecc858738620cafba03cfefc8c63fcf315", func := "loop.example/fairbooks/laws.FnGivenBy", spec := "fnGivenBy", apart := false }
def FnGivenBySaid : Prop := fnGivenByRow.holds Try.pinned (OpenSpec.ofChange fnGivenBySpec)

/-- ITS FALSE NEIGHBOUR: 'it returns false'. Refute it at one input. -/
def fnGivenByWrong : ChangeSpec := { name := "fnGivenBy", fn := fun _ => fun
  | [d1, d2] => { results := [.lit (.bool false)], args := [d1, d2] }
  | _ => none }
def FnGivenByWrongFalsely : Prop := fnGivenByRow.holds Try.pinned (OpenSpec.ofChange fnGivenByWrong)

/-- 'laws.FnCalledGain': WHATEVER THE INPUT: true; the input reads as it did. -/
def fnCalledGainSpec : ChangeSpec := { name := "fnCalledGain", fn := fun _ => fun
  | [d] => { results := [.lit (.bool true)], args := [d] }
  | _ => none }
def fnCalledGainRow : OpenClaim := { program := "ytghmgnhiglmifaa", sum := "9e7451e72f9e147969dd5363f135cfecc858738620cafba03cfefc8c63fcf315", func := "loop.example/fairbooks/laws.FnCalledGain", spec := "fnCalledGain", apart := false }
def FnCalledGainSaid : Prop := fnCalledGainRow.holds Try.pinned (OpenSpec.ofChange fnCalledGainSpec)

/-- ITS FALSE NEIGHBOUR: 'it returns false'. Refute it at one input. -/
def fnCalledGainWrong : ChangeSpec := { name := "fnCalledGain", fn := fun _ => fun
  | [d] => { results := [.lit (.bool false)], args := [d] }
  | _ => none }
def FnCalledGainWrongFalsely : Prop := fnCalledGainRow.holds Try.pinned (OpenSpec.ofChange fnCalledGainWrong)

/-- 'laws.FnFitsCalled': WHATEVER THE INPUT: true; the input reads as it did. -/
def fnFitsCalledSpec : ChangeSpec := { name := "fnFitsCalled", fn := fun _ => fun
  | [d] => { results := [.lit (.bool true)], args := [d] }
  | _ => none }
def fnFitsCalledRow : OpenClaim := { program := "ytghmgnhiglmifaa", sum := "9e7451e72f9e147969dd5363f135cfecc858738620cafba03cfefc8c63fcf315", func := "loop.example/fairbooks/laws.FnFitsCalled", spec := "fnFitsCalled", apart := false }
def FnFitsCalledSaid : Prop := fnFitsCalledRow.holds Try.pinned (OpenSpec.ofChange fnFitsCalledSpec)

/-- ITS FALSE NEIGHBOUR: 'it returns false'. Refute it at one input. -/
def fnFitsCalledWrong : ChangeSpec := { name := "fnFitsCalled", fn := fun _ => fun
  | [d] => { results := [.lit (.bool false)], args := [d] }
  | _ => none }
def FnFitsCalledWrongFalsely : Prop := fnFitsCalledRow.holds Try.pinned (OpenSpec.ofChange fnFitsCalledWrong)

/-- 'laws.FnAfterEvent': WHATEVER THE INPUT: true; the input reads as it did. -/
def fnAfterEventSpec : ChangeSpec := { name := "fnAfterEvent", fn := fun _ => fun
  | [d] => { results := [.lit (.bool true)], args := [d] }
  | _ => none }
def fnAfterEventRow : OpenClaim := { program := "ytghmgnhiglmifaa", sum := "9e7451e72f9e147969dd5363f135cfecc858738620cafba03cfefc8c63fcf315", func := "loop.example/fairbooks/laws.FnAfterEvent", spec := "fnAfterEvent", unfollowed := true, recurses := true, apart := false }
def FnAfterEventSaid : Prop := fnAfterEventRow.holds Try.pinned (OpenSpec.ofChange fnAfterEventSpec)

/-- ITS FALSE NEIGHBOUR: 'it returns false'. Refute it at one input. -/
def fnAfterEventWrong : ChangeSpec := { name := "fnAfterEvent", fn := fun _ => fun
  | [d] => { results := [.lit (.bool false)], args := [d] }
  | _ => none }
def FnAfterEventWrongFalsely : Prop := fnAfterEventRow.holds Try.pinned (OpenSpec.ofChange fnAfterEventWrong)

/-- 'laws.FnTotal': WHATEVER THE INPUT: true; the input reads as it did. -/
def fnTotalSpec : ChangeSpec := { name := "fnTotal", fn := fun _ => fun
  | [d] => { results := [.lit (.bool true)], args := [d] }
  | _ => none }
def fnTotalRow : OpenClaim := { program := "ytghmgnhiglmifaa", sum := "9e7451e72f9e147969dd5363f135cfecc858738620cafba03cfefc8c63fcf315", func := "loop.example/fairbooks/laws.FnTotal", spec := "fnTotal", apart := false }
def FnTotalSaid : Prop := fnTotalRow.holds Try.pinned (OpenSpec.ofChange fnTotalSpec)

/-- ITS FALSE NEIGHBOUR: 'it returns false'. Refute it at one input. -/
def fnTotalWrong : ChangeSpec := { name := "fnTotal", fn := fun _ => fun
  | [d] => { results := [.lit (.bool false)], args := [d] }
  | _ => none }
def FnTotalWrongFalsely : Prop := fnTotalRow.holds Try.pinned (OpenSpec.ofChange fnTotalWrong)

/-- 'laws.FnBayes': WHATEVER THE INPUT: true; the input reads as it did. -/
def fnBayesSpec : ChangeSpec := { name := "fnBayes", fn := fun _ => fun
  | [d] => { results := [.lit (.bool true)], args := [d] }
  | _ => none }
def fnBayesRow : OpenClaim := { program := "ytghmgnhiglmifaa", sum := "9e7451e72f9e147969dd5363f135cfecc858738620cafba03cfefc8c63fcf315", func := "loop.example/fairbooks/laws.FnBayes", spec := "fnBayes", apart := false }
def FnBayesSaid : Prop := fnBayesRow.holds Try.pinned (OpenSpec.ofChange fnBayesSpec)

/-- ITS FALSE NEIGHBOUR: 'it returns false'. Refute it at one input. -/
def fnBayesWrong : ChangeSpec := { name := "fnBayes", fn := fun _ => fun
  | [d] => { results := [.lit (.bool false)], args := [d] }
  | _ => none }
def FnBayesWrongFalsely : Prop := fnBayesRow.holds Try.pinned (OpenSpec.ofChange fnBayesWrong)

/-- 'laws.FnExactGivenBy': WHATEVER THE INPUT: true; the input reads as it did. -/
def fnExactGivenBySpec : ChangeSpec := { name := "fnExactGivenBy", fn := fun _ => fun
  | [d1, d2, d3] => { results := [.lit (.bool true)], args := [d1, d2, d3] }
  | _ => none }
def fnExactGivenByRow : OpenClaim := { program := "ytghmgnhiglmifaa", sum := "9e7451e72f9e147969dd5363f135cfecc858738620cafba03cfefc8c63fcf315", func := "loop.example/fairbooks/laws.FnExactGivenBy", spec := "fnExactGivenBy", apart := false }
def FnExactGivenBySaid : Prop := fnExactGivenByRow.holds Try.pinned (OpenSpec.ofChange fnExactGivenBySpec)

/-- ITS FALSE NEIGHBOUR: 'it returns false'. Refute it at one input. -/
def fnExactGivenByWrong : ChangeSpec := { name := "fnExactGivenBy", fn := fun _ => fun
  | [d1, d2, d3] => { results := [.lit (.bool false)], args := [d1, d2, d3] }
  | _ => none }
def FnExactGivenByWrongFalsely : Prop := fnExactGivenByRow.holds Try.pinned (OpenSpec.ofChange fnExactGivenByWrong)

/-- 'laws.FnExactCalledGain': WHATEVER THE INPUT: true; the input reads as it did. -/
def fnExactCalledGainSpec : ChangeSpec := { name := "fnExactCalledGain", fn := fun _ => fun
  | [d1, d2, d3, d4] => { results := [.lit (.bool true)], args := [d1, d2, d3, d4] }
  | _ => none }
def fnExactCalledGainRow : OpenClaim := { program := "ytghmgnhiglmifaa", sum := "9e7451e72f9e147969dd5363f135cfecc858738620cafba03cfefc8c63fcf315", func := "loop.example/fairbooks/laws.FnExactCalledGain", spec := "fnExactCalledGain", apart := false }
def FnExactCalledGainSaid : Prop := fnExactCalledGainRow.holds Try.pinned (OpenSpec.ofChange fnExactCalledGainSpec)

/-- ITS FALSE NEIGHBOUR: 'it returns false'. Refute it at one input. -/
def fnExactCalledGainWrong : ChangeSpec := { name := "fnExactCalledGain", fn := fun _ => fun
  | [d1, d2, d3, d4] => { results := [.lit (.bool false)], args := [d1, d2, d3, d4] }
  | _ => none }
def FnExactCalledGainWrongFalsely : Prop := fnExactCalledGainRow.holds Try.pinned (OpenSpec.ofChange fnExactCalledGainWrong)

/-- 'laws.FnExactFitsCalled': WHATEVER THE INPUT: true; the input reads as it did. -/
def fnExactFitsCalledSpec : ChangeSpec := { name := "fnExactFitsCalled", fn := fun _ => fun
  | [d1, d2, d3, d4] => { results := [.lit (.bool true)], args := [d1, d2, d3, d4] }
  | _ => none }
def fnExactFitsCalledRow : OpenClaim := { program := "ytghmgnhiglmifaa", sum := "9e7451e72f9e147969dd5363f135cfecc858738620cafba03cfefc8c63fcf315", func := "loop.example/fairbooks/laws.FnExactFitsCalled", spec := "fnExactFitsCalled", apart := false }
def FnExactFitsCalledSaid : Prop := fnExactFitsCalledRow.holds Try.pinned (OpenSpec.ofChange fnExactFitsCalledSpec)

/-- ITS FALSE NEIGHBOUR: 'it returns false'. Refute it at one input. -/
def fnExactFitsCalledWrong : ChangeSpec := { name := "fnExactFitsCalled", fn := fun _ => fun
  | [d1, d2, d3, d4] => { results := [.lit (.bool false)], args := [d1, d2, d3, d4] }
  | _ => none }
def FnExactFitsCalledWrongFalsely : Prop := fnExactFitsCalledRow.holds Try.pinned (OpenSpec.ofChange fnExactFitsCalledWrong)

/-- 'laws.FnExactAfterEvent': WHATEVER THE INPUT: true; the input reads as it did. -/
def fnExactAfterEventSpec : ChangeSpec := { name := "fnExactAfterEvent", fn := fun _ => fun
  | [d1, d2] => { results := [.lit (.bool true)], args := [d1, d2] }
  | _ => none }
def fnExactAfterEventRow : OpenClaim := { program := "ytghmgnhiglmifaa", sum := "9e7451e72f9e147969dd5363f135cfecc858738620cafba03cfefc8c63fcf315", func := "loop.example/fairbooks/laws.FnExactAfterEvent", spec := "fnExactAfterEvent", unfollowed := true, recurses := true, apart := false }
def FnExactAfterEventSaid : Prop := fnExactAfterEventRow.holds Try.pinned (OpenSpec.ofChange fnExactAfterEventSpec)

/-- ITS FALSE NEIGHBOUR: 'it returns false'. Refute it at one input. -/
def fnExactAfterEventWrong : ChangeSpec := { name := "fnExactAfterEvent", fn := fun _ => fun
  | [d1, d2] => { results := [.lit (.bool false)], args := [d1, d2] }
  | _ => none }
def FnExactAfterEventWrongFalsely : Prop := fnExactAfterEventRow.holds Try.pinned (OpenSpec.ofChange fnExactAfterEventWrong)

/- THE SECOND FORM. 'bulk': how many values and letters a reading holds, each counted each time it is reached (what is shared counts as often as it is met; a slice's spare places count too). A statement '..UptoSaid' is the law's where the arguments, and the package variables that the reading takes, are together of bulk at most 1048576: NARROWER than '..Said'. Prove '..Said' where nothing that the law and all that it calls make is longer than what came in: it says more and counts as full. Else prove '..UptoSaid'. A law counts once. -/
mutual
def uptoBulk {H : Type} : DataW H → Nat
  | .lit (.string bytes) => bytes.length + 1
  | .lit _ => 1
  | .nil => 1
  | .ptr d => uptoBulk d + 1
  | .slice elems spare => uptoBulkAll elems + uptoBulkAll spare + 1
  | .agg parts => uptoBulkAll parts + 1
  | .iface _ d => uptoBulk d + 1
  | .map entries => uptoBulkEntries entries + 1
  | .held _ => 1
def uptoBulkAll {H : Type} : List (DataW H) → Nat
  | [] => 0
  | d :: r => uptoBulk d + uptoBulkAll r
def uptoBulkEntries {H : Type} : List (Lit × DataW H) → Nat
  | [] => 0
  | x :: r => uptoBulkEntry x + uptoBulkEntries r
def uptoBulkEntry {H : Type} : Lit × DataW H → Nat
  | (.string bytes, d) => bytes.length + uptoBulk d + 1
  | (_, d) => uptoBulk d + 1
 end
def uptoSmall : (H : Type) → List (DataW H) → Bool := fun _ ds => decide (uptoBulkAll ds ≤ 1048576)
def OpenSpec.upto (s : _root_.Go.ChangeSpec) : _root_.Go.OpenSpec := { _root_.Go.OpenSpec.ofChange s with cond := some uptoSmall }

/-- 'laws.FnGivenBy', WHERE WHAT IT READS IS OF BULK AT MOST 1048576: true; the input reads as it did. -/
def fnGivenByUptoRow : OpenClaim := { program := "ytghmgnhiglmifaa", sum := "9e7451e72f9e147969dd5363f135cfecc858738620cafba03cfefc8c63fcf315", func := "loop.example/fairbooks/laws.FnGivenBy", spec := "fnGivenBy", apart := false, narrowed := true }
def FnGivenByUptoSaid : Prop := fnGivenByUptoRow.holds Try.pinned (OpenSpec.upto fnGivenBySpec)

/-- 'laws.FnCalledGain', WHERE WHAT IT READS IS OF BULK AT MOST 1048576: true; the input reads as it did. -/
def fnCalledGainUptoRow : OpenClaim := { program := "ytghmgnhiglmifaa", sum := "9e7451e72f9e147969dd5363f135cfecc858738620cafba03cfefc8c63fcf315", func := "loop.example/fairbooks/laws.FnCalledGain", spec := "fnCalledGain", apart := false, narrowed := true }
def FnCalledGainUptoSaid : Prop := fnCalledGainUptoRow.holds Try.pinned (OpenSpec.upto fnCalledGainSpec)

/-- 'laws.FnFitsCalled', WHERE WHAT IT READS IS OF BULK AT MOST 1048576: true; the input reads as it did. -/
def fnFitsCalledUptoRow : OpenClaim := { program := "ytghmgnhiglmifaa", sum := "9e7451e72f9e147969dd5363f135cfecc858738620cafba03cfefc8c63fcf315", func := "loop.example/fairbooks/laws.FnFitsCalled", spec := "fnFitsCalled", apart := false, narrowed := true }
def FnFitsCalledUptoSaid : Prop := fnFitsCalledUptoRow.holds Try.pinned (OpenSpec.upto fnFitsCalledSpec)

/-- 'laws.FnAfterEvent', WHERE WHAT IT READS IS OF BULK AT MOST 1048576: true; the input reads as it did. -/
def fnAfterEventUptoRow : OpenClaim := { program := "ytghmgnhiglmifaa", sum := "9e7451e72f9e147969dd5363f135cfecc858738620cafba03cfefc8c63fcf315", func := "loop.example/fairbooks/laws.FnAfterEvent", spec := "fnAfterEvent", unfollowed := true, recurses := true, apart := false, narrowed := true }
def FnAfterEventUptoSaid : Prop := fnAfterEventUptoRow.holds Try.pinned (OpenSpec.upto fnAfterEventSpec)

/-- 'laws.FnTotal', WHERE WHAT IT READS IS OF BULK AT MOST 1048576: true; the input reads as it did. -/
def fnTotalUptoRow : OpenClaim := { program := "ytghmgnhiglmifaa", sum := "9e7451e72f9e147969dd5363f135cfecc858738620cafba03cfefc8c63fcf315", func := "loop.example/fairbooks/laws.FnTotal", spec := "fnTotal", apart := false, narrowed := true }
def FnTotalUptoSaid : Prop := fnTotalUptoRow.holds Try.pinned (OpenSpec.upto fnTotalSpec)

/-- 'laws.FnBayes', WHERE WHAT IT READS IS OF BULK AT MOST 1048576: true; the input reads as it did. -/
def fnBayesUptoRow : OpenClaim := { program := "ytghmgnhiglmifaa", sum := "9e7451e72f9e147969dd5363f135cfecc858738620cafba03cfefc8c63fcf315", func := "loop.example/fairbooks/laws.FnBayes", spec := "fnBayes", apart := false, narrowed := true }
def FnBayesUptoSaid : Prop := fnBayesUptoRow.holds Try.pinned (OpenSpec.upto fnBayesSpec)

/-- 'laws.FnExactGivenBy', WHERE WHAT IT READS IS OF BULK AT MOST 1048576: true; the input reads as it did. -/
def fnExactGivenByUptoRow : OpenClaim := { program := "ytghmgnhiglmifaa", sum := "9e7451e72f9e147969dd5363f135cfecc858738620cafba03cfefc8c63fcf315", func := "loop.example/fairbooks/laws.FnExactGivenBy", spec := "fnExactGivenBy", apart := false, narrowed := true }
def FnExactGivenByUptoSaid : Prop := fnExactGivenByUptoRow.holds Try.pinned (OpenSpec.upto fnExactGivenBySpec)

/-- 'laws.FnExactCalledGain', WHERE WHAT IT READS IS OF BULK AT MOST 1048576: true; the input reads as it did. -/
def fnExactCalledGainUptoRow : OpenClaim := { program := "ytghmgnhiglmifaa", sum := "9e7451e72f9e147969dd5363f135cfecc858738620cafba03cfefc8c63fcf315", func := "loop.example/fairbooks/laws.FnExactCalledGain", spec := "fnExactCalledGain", apart := false, narrowed := true }
def FnExactCalledGainUptoSaid : Prop := fnExactCalledGainUptoRow.holds Try.pinned (OpenSpec.upto fnExactCalledGainSpec)

/-- 'laws.FnExactFitsCalled', WHERE WHAT IT READS IS OF BULK AT MOST 1048576: true; the input reads as it did. -/
def fnExactFitsCalledUptoRow : OpenClaim := { program := "ytghmgnhiglmifaa", sum := "9e7451e72f9e147969dd5363f135cfecc858738620cafba03cfefc8c63fcf315", func := "loop.example/fairbooks/laws.FnExactFitsCalled", spec := "fnExactFitsCalled", apart := false, narrowed := true }
def FnExactFitsCalledUptoSaid : Prop := fnExactFitsCalledUptoRow.holds Try.pinned (OpenSpec.upto fnExactFitsCalledSpec)

/-- 'laws.FnExactAfterEvent', WHERE WHAT IT READS IS OF BULK AT MOST 1048576: true; the input reads as it did. -/
def fnExactAfterEventUptoRow : OpenClaim := { program := "ytghmgnhiglmifaa", sum := "9e7451e72f9e147969dd5363f135cfecc858738620cafba03cfefc8c63fcf315", func := "loop.example/fairbooks/laws.FnExactAfterEvent", spec := "fnExactAfterEvent", unfollowed := true, recurses := true, apart := false, narrowed := true }
def FnExactAfterEventUptoSaid : Prop := fnExactAfterEventUptoRow.holds Try.pinned (OpenSpec.upto fnExactAfterEventSpec)

end Rows
end Go.Proofs.Ytghmgnhiglmifaa
