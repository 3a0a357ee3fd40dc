/-
  No cell of these rows narrows 'for every input' (looked for: loops, veiled, ifaces, maps, wideKeys, modest, calm, conditions, laid).
  DERIVED. THE GIVEN ROWS OF THIS SEAT. 13 by the template 'for every input the law returns true; each argument reads behind the call as it read before'; 0 by the template 'total and deterministic' (their statements: YtbjmhbkpeglpkaaTotals.lean).
  GIVEN WITH THE SEED: the statements are not yours to turn. If you find one false, say at which input.
  Laid BY PROGRAM, IN A SANDBOX (cutbox-rows.mjs): the forced cells as the released guide's own fill.sh prints them over the translation a2511da439838329… (all of the seat's roots in one cut). By AI agents, Wed Nov 11 2026. No macro, syntax, notation, axiom, sorry.
-/
import Derived.Test.YtbjmhbkpeglpkaaChecked
import GoSem.Claim
import GoSem.ClaimJoined
import GoSem.ClaimMapViews
import Derived.JoinedTies
import Derived.KernelRfl
namespace Go.Proofs.Ytbjmhbkpeglpkaa
/- THE CELL 'sum', in the pinned program and in every row, IS THE sha256 OF THE DUMP (.gsa) THAT YtbjmhbkpeglpkaaProg.lean LOADS. Nothing in Lean hashes anything: it is a label: what it is worth is what the hold of that sum in a sandbox is worth. -/
noncomputable def Try.pinned : Pinned := { name := "ytbjmhbkpeglpkaa", sum := "a2511da439838329addcde887f4db9b4f2399c7ad365a2943fddc3027d48cf79", checked := Try.checked }
namespace Rows
def none {H : Type} : Left H := { results := [], args := [] }

/-- 'laws.FnWeightsOk': WHATEVER THE INPUT: true; the input reads as it did. -/
def fnWeightsOkSpec : ChangeSpec := { name := "fnWeightsOk", fn := fun _ => fun
  | [d] => { results := [.lit (.bool true)], args := [d] }
  | _ => none }
def fnWeightsOkRow : OpenClaim := { program := "ytbjmhbkpeglpkaa", sum := "a2511da439838329addcde887f4db9b4f2399c7ad365a2943fddc3027d48cf79", func := "loop.example/fairbooks/laws.FnWeightsOk", spec := "fnWeightsOk", unfollowed := true, recurses := true, apart := false }
def FnWeightsOkSaid : Prop := fnWeightsOkRow.holds Try.pinned (OpenSpec.ofChange fnWeightsOkSpec)

/-- ITS FALSE NEIGHBOUR: 'it returns false'. Refute it at one input. -/
def fnWeightsOkWrong : ChangeSpec := { name := "fnWeightsOk", fn := fun _ => fun
  | [d] => { results := [.lit (.bool false)], args := [d] }
  | _ => none }
def FnWeightsOkWrongFalsely : Prop := fnWeightsOkRow.holds Try.pinned (OpenSpec.ofChange fnWeightsOkWrong)

/-- 'laws.FnReducedWeights': WHATEVER THE INPUT: true; the input reads as it did. -/
def fnReducedWeightsSpec : ChangeSpec := { name := "fnReducedWeights", fn := fun _ => fun
  | [d] => { results := [.lit (.bool true)], args := [d] }
  | _ => none }
def fnReducedWeightsRow : OpenClaim := { program := "ytbjmhbkpeglpkaa", sum := "a2511da439838329addcde887f4db9b4f2399c7ad365a2943fddc3027d48cf79", func := "loop.example/fairbooks/laws.FnReducedWeights", spec := "fnReducedWeights", unfollowed := true, recurses := true, apart := false }
def FnReducedWeightsSaid : Prop := fnReducedWeightsRow.holds Try.pinned (OpenSpec.ofChange fnReducedWeightsSpec)

/-- ITS FALSE NEIGHBOUR: 'it returns false'. Refute it at one input. -/
def fnReducedWeightsWrong : ChangeSpec := { name := "fnReducedWeights", fn := fun _ => fun
  | [d] => { results := [.lit (.bool false)], args := [d] }
  | _ => none }
def FnReducedWeightsWrongFalsely : Prop := fnReducedWeightsRow.holds Try.pinned (OpenSpec.ofChange fnReducedWeightsWrong)

/-- 'laws.FnEvidenceOk': WHATEVER THE INPUT: true; the input reads as it did. -/
def fnEvidenceOkSpec : ChangeSpec := { name := "fnEvidenceOk", fn := fun _ => fun
  | [d] => { results := [.lit (.bool true)], args := [d] }
  | _ => none }
def fnEvidenceOkRow : OpenClaim := { program := "ytbjmhbkpeglpkaa", sum := "a2511da439838329addcde887f4db9b4f2399c7ad365a2943fddc3027d48cf79", func := "loop.example/fairbooks/laws.FnEvidenceOk", spec := "fnEvidenceOk", apart := false }
def FnEvidenceOkSaid : Prop := fnEvidenceOkRow.holds Try.pinned (OpenSpec.ofChange fnEvidenceOkSpec)

/-- ITS FALSE NEIGHBOUR: 'it returns false'. Refute it at one input. -/
def fnEvidenceOkWrong : ChangeSpec := { name := "fnEvidenceOk", fn := fun _ => fun
  | [d] => { results := [.lit (.bool false)], args := [d] }
  | _ => none }
def FnEvidenceOkWrongFalsely : Prop := fnEvidenceOkRow.holds Try.pinned (OpenSpec.ofChange fnEvidenceOkWrong)

/-- 'laws.FnLearnedFrom': WHATEVER THE INPUT: true; the input reads as it did. -/
def fnLearnedFromSpec : ChangeSpec := { name := "fnLearnedFrom", fn := fun _ => fun
  | [d] => { results := [.lit (.bool true)], args := [d] }
  | _ => none }
def fnLearnedFromRow : OpenClaim := { program := "ytbjmhbkpeglpkaa", sum := "a2511da439838329addcde887f4db9b4f2399c7ad365a2943fddc3027d48cf79", func := "loop.example/fairbooks/laws.FnLearnedFrom", spec := "fnLearnedFrom", unfollowed := true, recurses := true, apart := false }
def FnLearnedFromSaid : Prop := fnLearnedFromRow.holds Try.pinned (OpenSpec.ofChange fnLearnedFromSpec)

/-- ITS FALSE NEIGHBOUR: 'it returns false'. Refute it at one input. -/
def fnLearnedFromWrong : ChangeSpec := { name := "fnLearnedFrom", fn := fun _ => fun
  | [d] => { results := [.lit (.bool false)], args := [d] }
  | _ => none }
def FnLearnedFromWrongFalsely : Prop := fnLearnedFromRow.holds Try.pinned (OpenSpec.ofChange fnLearnedFromWrong)

/-- 'laws.FnLearnedAll': WHATEVER THE INPUT: true; the input reads as it did. -/
def fnLearnedAllSpec : ChangeSpec := { name := "fnLearnedAll", fn := fun _ => fun
  | [d] => { results := [.lit (.bool true)], args := [d] }
  | _ => none }
def fnLearnedAllRow : OpenClaim := { program := "ytbjmhbkpeglpkaa", sum := "a2511da439838329addcde887f4db9b4f2399c7ad365a2943fddc3027d48cf79", func := "loop.example/fairbooks/laws.FnLearnedAll", spec := "fnLearnedAll", unfollowed := true, recurses := true, apart := false }
def FnLearnedAllSaid : Prop := fnLearnedAllRow.holds Try.pinned (OpenSpec.ofChange fnLearnedAllSpec)

/-- ITS FALSE NEIGHBOUR: 'it returns false'. Refute it at one input. -/
def fnLearnedAllWrong : ChangeSpec := { name := "fnLearnedAll", fn := fun _ => fun
  | [d] => { results := [.lit (.bool false)], args := [d] }
  | _ => none }
def FnLearnedAllWrongFalsely : Prop := fnLearnedAllRow.holds Try.pinned (OpenSpec.ofChange fnLearnedAllWrong)

/-- 'laws.FnBelievedOf': WHATEVER THE INPUT: true; the input reads as it did. -/
def fnBelievedOfSpec : ChangeSpec := { name := "fnBelievedOf", fn := fun _ => fun
  | [d] => { results := [.lit (.bool true)], args := [d] }
  | _ => none }
def fnBelievedOfRow : OpenClaim := { program := "ytbjmhbkpeglpkaa", sum := "a2511da439838329addcde887f4db9b4f2399c7ad365a2943fddc3027d48cf79", func := "loop.example/fairbooks/laws.FnBelievedOf", spec := "fnBelievedOf", unfollowed := true, recurses := true, apart := false }
def FnBelievedOfSaid : Prop := fnBelievedOfRow.holds Try.pinned (OpenSpec.ofChange fnBelievedOfSpec)

/-- ITS FALSE NEIGHBOUR: 'it returns false'. Refute it at one input. -/
def fnBelievedOfWrong : ChangeSpec := { name := "fnBelievedOf", fn := fun _ => fun
  | [d] => { results := [.lit (.bool false)], args := [d] }
  | _ => none }
def FnBelievedOfWrongFalsely : Prop := fnBelievedOfRow.holds Try.pinned (OpenSpec.ofChange fnBelievedOfWrong)

/-- 'laws.FnLearnEvent': WHATEVER THE INPUT: true; the input reads as it did. -/
def fnLearnEventSpec : ChangeSpec := { name := "fnLearnEvent", fn := fun _ => fun
  | [d] => { results := [.lit (.bool true)], args := [d] }
  | _ => none }
def fnLearnEventRow : OpenClaim := { program := "ytbjmhbkpeglpkaa", sum := "a2511da439838329addcde887f4db9b4f2399c7ad365a2943fddc3027d48cf79", func := "loop.example/fairbooks/laws.FnLearnEvent", spec := "fnLearnEvent", unfollowed := true, recurses := true, apart := false }
def FnLearnEventSaid : Prop := fnLearnEventRow.holds Try.pinned (OpenSpec.ofChange fnLearnEventSpec)

/-- ITS FALSE NEIGHBOUR: 'it returns false'. Refute it at one input. -/
def fnLearnEventWrong : ChangeSpec := { name := "fnLearnEvent", fn := fun _ => fun
  | [d] => { results := [.lit (.bool false)], args := [d] }
  | _ => none }
def FnLearnEventWrongFalsely : Prop := fnLearnEventRow.holds Try.pinned (OpenSpec.ofChange fnLearnEventWrong)

/-- 'laws.FnExactWeightsOk': WHATEVER THE INPUT: true; the input reads as it did. -/
def fnExactWeightsOkSpec : ChangeSpec := { name := "fnExactWeightsOk", fn := fun _ => fun
  | [d] => { results := [.lit (.bool true)], args := [d] }
  | _ => none }
def fnExactWeightsOkRow : OpenClaim := { program := "ytbjmhbkpeglpkaa", sum := "a2511da439838329addcde887f4db9b4f2399c7ad365a2943fddc3027d48cf79", func := "loop.example/fairbooks/laws.FnExactWeightsOk", spec := "fnExactWeightsOk", unfollowed := true, recurses := true, apart := false }
def FnExactWeightsOkSaid : Prop := fnExactWeightsOkRow.holds Try.pinned (OpenSpec.ofChange fnExactWeightsOkSpec)

/-- ITS FALSE NEIGHBOUR: 'it returns false'. Refute it at one input. -/
def fnExactWeightsOkWrong : ChangeSpec := { name := "fnExactWeightsOk", fn := fun _ => fun
  | [d] => { results := [.lit (.bool false)], args := [d] }
  | _ => none }
def FnExactWeightsOkWrongFalsely : Prop := fnExactWeightsOkRow.holds Try.pinned (OpenSpec.ofChange fnExactWeightsOkWrong)

/-- 'laws.FnExactReducedWeights': WHATEVER THE INPUT: true; the input reads as it did. -/
def fnExactReducedWeightsSpec : ChangeSpec := { name := "fnExactReducedWeights", fn := fun _ => fun
  | [d] => { results := [.lit (.bool true)], args := [d] }
  | _ => none }
def fnExactReducedWeightsRow : OpenClaim := { program := "ytbjmhbkpeglpkaa", sum := "a2511da439838329addcde887f4db9b4f2399c7ad365a2943fddc3027d48cf79", func := "loop.example/fairbooks/laws.FnExactReducedWeights", spec := "fnExactReducedWeights", unfollowed := true, recurses := true, apart := false }
def FnExactReducedWeightsSaid : Prop := fnExactReducedWeightsRow.holds Try.pinned (OpenSpec.ofChange fnExactReducedWeightsSpec)

/-- ITS FALSE NEIGHBOUR: 'it returns false'. Refute it at one input. -/
def fnExactReducedWeightsWrong : ChangeSpec := { name := "fnExactReducedWeights", fn := fun _ => fun
  | [d] => { results := [.lit (.bool false)], args := [d] }
  | _ => none }
def FnExactReducedWeightsWrongFalsely : Prop := fnExactReducedWeightsRow.holds Try.pinned (OpenSpec.ofChange fnExactReducedWeightsWrong)

/-- 'laws.FnExactEvidenceOk': WHATEVER THE INPUT: true; the input reads as it did. -/
def fnExactEvidenceOkSpec : ChangeSpec := { name := "fnExactEvidenceOk", fn := fun _ => fun
  | [d1, d2] => { results := [.lit (.bool true)], args := [d1, d2] }
  | _ => none }
def fnExactEvidenceOkRow : OpenClaim := { program := "ytbjmhbkpeglpkaa", sum := "a2511da439838329addcde887f4db9b4f2399c7ad365a2943fddc3027d48cf79", func := "loop.example/fairbooks/laws.FnExactEvidenceOk", spec := "fnExactEvidenceOk", apart := false }
def FnExactEvidenceOkSaid : Prop := fnExactEvidenceOkRow.holds Try.pinned (OpenSpec.ofChange fnExactEvidenceOkSpec)

/-- ITS FALSE NEIGHBOUR: 'it returns false'. Refute it at one input. -/
def fnExactEvidenceOkWrong : ChangeSpec := { name := "fnExactEvidenceOk", fn := fun _ => fun
  | [d1, d2] => { results := [.lit (.bool false)], args := [d1, d2] }
  | _ => none }
def FnExactEvidenceOkWrongFalsely : Prop := fnExactEvidenceOkRow.holds Try.pinned (OpenSpec.ofChange fnExactEvidenceOkWrong)

/-- 'laws.FnExactLearnedFrom': WHATEVER THE INPUT: true; the input reads as it did. -/
def fnExactLearnedFromSpec : ChangeSpec := { name := "fnExactLearnedFrom", fn := fun _ => fun
  | [d1, d2] => { results := [.lit (.bool true)], args := [d1, d2] }
  | _ => none }
def fnExactLearnedFromRow : OpenClaim := { program := "ytbjmhbkpeglpkaa", sum := "a2511da439838329addcde887f4db9b4f2399c7ad365a2943fddc3027d48cf79", func := "loop.example/fairbooks/laws.FnExactLearnedFrom", spec := "fnExactLearnedFrom", unfollowed := true, recurses := true, apart := false }
def FnExactLearnedFromSaid : Prop := fnExactLearnedFromRow.holds Try.pinned (OpenSpec.ofChange fnExactLearnedFromSpec)

/-- ITS FALSE NEIGHBOUR: 'it returns false'. Refute it at one input. -/
def fnExactLearnedFromWrong : ChangeSpec := { name := "fnExactLearnedFrom", fn := fun _ => fun
  | [d1, d2] => { results := [.lit (.bool false)], args := [d1, d2] }
  | _ => none }
def FnExactLearnedFromWrongFalsely : Prop := fnExactLearnedFromRow.holds Try.pinned (OpenSpec.ofChange fnExactLearnedFromWrong)

/-- 'laws.FnExactLearnedAll': WHATEVER THE INPUT: true; the input reads as it did. -/
def fnExactLearnedAllSpec : ChangeSpec := { name := "fnExactLearnedAll", fn := fun _ => fun
  | [d1, d2] => { results := [.lit (.bool true)], args := [d1, d2] }
  | _ => none }
def fnExactLearnedAllRow : OpenClaim := { program := "ytbjmhbkpeglpkaa", sum := "a2511da439838329addcde887f4db9b4f2399c7ad365a2943fddc3027d48cf79", func := "loop.example/fairbooks/laws.FnExactLearnedAll", spec := "fnExactLearnedAll", unfollowed := true, recurses := true, apart := false }
def FnExactLearnedAllSaid : Prop := fnExactLearnedAllRow.holds Try.pinned (OpenSpec.ofChange fnExactLearnedAllSpec)

/-- ITS FALSE NEIGHBOUR: 'it returns false'. Refute it at one input. -/
def fnExactLearnedAllWrong : ChangeSpec := { name := "fnExactLearnedAll", fn := fun _ => fun
  | [d1, d2] => { results := [.lit (.bool false)], args := [d1, d2] }
  | _ => none }
def FnExactLearnedAllWrongFalsely : Prop := fnExactLearnedAllRow.holds Try.pinned (OpenSpec.ofChange fnExactLearnedAllWrong)

/-- 'laws.FnExactBelievedOf': WHATEVER THE INPUT: true; the input reads as it did. -/
def fnExactBelievedOfSpec : ChangeSpec := { name := "fnExactBelievedOf", fn := fun _ => fun
  | [d1, d2] => { results := [.lit (.bool true)], args := [d1, d2] }
  | _ => none }
def fnExactBelievedOfRow : OpenClaim := { program := "ytbjmhbkpeglpkaa", sum := "a2511da439838329addcde887f4db9b4f2399c7ad365a2943fddc3027d48cf79", func := "loop.example/fairbooks/laws.FnExactBelievedOf", spec := "fnExactBelievedOf", unfollowed := true, recurses := true, apart := false }
def FnExactBelievedOfSaid : Prop := fnExactBelievedOfRow.holds Try.pinned (OpenSpec.ofChange fnExactBelievedOfSpec)

/-- ITS FALSE NEIGHBOUR: 'it returns false'. Refute it at one input. -/
def fnExactBelievedOfWrong : ChangeSpec := { name := "fnExactBelievedOf", fn := fun _ => fun
  | [d1, d2] => { results := [.lit (.bool false)], args := [d1, d2] }
  | _ => none }
def FnExactBelievedOfWrongFalsely : Prop := fnExactBelievedOfRow.holds Try.pinned (OpenSpec.ofChange fnExactBelievedOfWrong)

/- THE SECOND FORM. 'bulk': how many values and letters a reading holds, each counted each time it is reached (what is shared counts as often as it is met; a slice's spare places count too). A statement '..UptoSaid' is the law's where the arguments, and the package variables that the reading takes, are together of bulk at most 1048576: NARROWER than '..Said'. Prove '..Said' where nothing that the law and all that it calls make is longer than what came in: it says more and counts as full. Else prove '..UptoSaid'. A law counts once. -/
mutual
def uptoBulk {H : Type} : DataW H → Nat
  | .lit (.string bytes) => bytes.length + 1
  | .lit _ => 1
  | .nil => 1
  | .ptr d => uptoBulk d + 1
  | .slice elems spare => uptoBulkAll elems + uptoBulkAll spare + 1
  | .agg parts => uptoBulkAll parts + 1
  | .iface _ d => uptoBulk d + 1
  | .map entries => uptoBulkEntries entries + 1
  | .held _ => 1
def uptoBulkAll {H : Type} : List (DataW H) → Nat
  | [] => 0
  | d :: r => uptoBulk d + uptoBulkAll r
def uptoBulkEntries {H : Type} : List (Lit × DataW H) → Nat
  | [] => 0
  | x :: r => uptoBulkEntry x + uptoBulkEntries r
def uptoBulkEntry {H : Type} : Lit × DataW H → Nat
  | (.string bytes, d) => bytes.length + uptoBulk d + 1
  | (_, d) => uptoBulk d + 1
 end
def uptoSmall : (H : Type) → List (DataW H) → Bool := fun _ ds => decide (uptoBulkAll ds ≤ 1048576)
def OpenSpec.upto (s : _root_.Go.ChangeSpec) : _root_.Go.OpenSpec := { _root_.Go.OpenSpec.ofChange s with cond := some uptoSmall }

/-- 'laws.FnWeightsOk', WHERE WHAT IT READS IS OF BULK AT MOST 1048576: true; the input reads as it did. -/
def fnWeightsOkUptoRow : OpenClaim := { program := "ytbjmhbkpeglpkaa", sum := "a2511da439838329addcde887f4db9b4f2399c7ad365a2943fddc3027d48cf79", func := "loop.example/fairbooks/laws.FnWeightsOk", spec := "fnWeightsOk", unfollowed := true, recurses := true, apart := false, narrowed := true }
def FnWeightsOkUptoSaid : Prop := fnWeightsOkUptoRow.holds Try.pinned (OpenSpec.upto fnWeightsOkSpec)

/-- 'laws.FnReducedWeights', WHERE WHAT IT READS IS OF BULK AT MOST 1048576: true; the input reads as it did. -/
def fnReducedWeightsUptoRow : OpenClaim := { program := "ytbjmhbkpeglpkaa", sum := "a2511da439838329addcde887f4db9b4f2399c7ad365a2943fddc3027d48cf79", func := "loop.example/fairbooks/laws.FnReducedWeights", spec := "fnReducedWeights", unfollowed := true, recurses := true, apart := false, narrowed := true }
def FnReducedWeightsUptoSaid : Prop := fnReducedWeightsUptoRow.holds Try.pinned (OpenSpec.upto fnReducedWeightsSpec)

/-- 'laws.FnEvidenceOk', WHERE WHAT IT READS IS OF BULK AT MOST 1048576: true; the input reads as it did. -/
def fnEvidenceOkUptoRow : OpenClaim := { program := "ytbjmhbkpeglpkaa", sum := "a2511da439838329addcde887f4db9b4f2399c7ad365a2943fddc3027d48cf79", func := "loop.example/fairbooks/laws.FnEvidenceOk", spec := "fnEvidenceOk", apart := false, narrowed := true }
def FnEvidenceOkUptoSaid : Prop := fnEvidenceOkUptoRow.holds Try.pinned (OpenSpec.upto fnEvidenceOkSpec)

/-- 'laws.FnLearnedFrom', WHERE WHAT IT READS IS OF BULK AT MOST 1048576: true; the input reads as it did. -/
def fnLearnedFromUptoRow : OpenClaim := { program := "ytbjmhbkpeglpkaa", sum := "a2511da439838329addcde887f4db9b4f2399c7ad365a2943fddc3027d48cf79", func := "loop.example/fairbooks/laws.FnLearnedFrom", spec := "fnLearnedFrom", unfollowed := true, recurses := true, apart := false, narrowed := true }
def FnLearnedFromUptoSaid : Prop := fnLearnedFromUptoRow.holds Try.pinned (OpenSpec.upto fnLearnedFromSpec)

/-- 'laws.FnLearnedAll', WHERE WHAT IT READS IS OF BULK AT MOST 1048576: true; the input reads as it did. -/
def fnLearnedAllUptoRow : OpenClaim := { program := "ytbjmhbkpeglpkaa", sum := "a2511da439838329addcde887f4db9b4f2399c7ad365a2943fddc3027d48cf79", func := "loop.example/fairbooks/laws.FnLearnedAll", spec := "fnLearnedAll", unfollowed := true, recurses := true, apart := false, narrowed := true }
def FnLearnedAllUptoSaid : Prop := fnLearnedAllUptoRow.holds Try.pinned (OpenSpec.upto fnLearnedAllSpec)

/-- 'laws.FnBelievedOf', WHERE WHAT IT READS IS OF BULK AT MOST 1048576: true; the input reads as it did. -/
def fnBelievedOfUptoRow : OpenClaim := { program := "ytbjmhbkpeglpkaa", sum := "a2511da439838329addcde887f4db9b4f2399c7ad365a2943fddc3027d48cf79", func := "loop.example/fairbooks/laws.FnBelievedOf", spec := "fnBelievedOf", unfollowed := true, recurses := true, apart := false, narrowed := true }
def FnBelievedOfUptoSaid : Prop := fnBelievedOfUptoRow.holds Try.pinned (OpenSpec.upto fnBelievedOfSpec)

/-- 'laws.FnLearnEvent', WHERE WHAT IT READS IS OF BULK AT MOST 1048576: true; the input reads as it did. -/
def fnLearnEventUptoRow : OpenClaim := { program := "ytbjmhbkpeglpkaa", sum := "a2511da439838329addcde887f4db9b4f2399c7ad365a2943fddc3027d48cf79", func := "loop.example/fairbooks/laws.FnLearnEvent", spec := "fnLearnEvent", unfollowed := true, recurses := true, apart := false, narrowed := true }
def FnLearnEventUptoSaid : Prop := fnLearnEventUptoRow.holds Try.pinned (OpenSpec.upto fnLearnEventSpec)

/-- 'laws.FnExactWeightsOk', WHERE WHAT IT READS IS OF BULK AT MOST 1048576: true; the input reads as it did. -/
def fnExactWeightsOkUptoRow : OpenClaim := { program := "ytbjmhbkpeglpkaa", sum := "a2511da439838329addcde887f4db9b4f2399c7ad365a2943fddc3027d48cf79", func := "loop.example/fairbooks/laws.FnExactWeightsOk", spec := "fnExactWeightsOk", unfollowed := true, recurses := true, apart := false, narrowed := true }
def FnExactWeightsOkUptoSaid : Prop := fnExactWeightsOkUptoRow.holds Try.pinned (OpenSpec.upto fnExactWeightsOkSpec)

/-- 'laws.FnExactReducedWeights', WHERE WHAT IT READS IS OF BULK AT MOST 1048576: true; the input reads as it did. -/
def fnExactReducedWeightsUptoRow : OpenClaim := { program := "ytbjmhbkpeglpkaa", sum := "a2511da439838329addcde887f4db9b4f2399c7ad365a2943fddc3027d48cf79", func := "loop.example/fairbooks/laws.FnExactReducedWeights", spec := "fnExactReducedWeights", unfollowed := true, recurses := true, apart := false, narrowed := true }
def FnExactReducedWeightsUptoSaid : Prop := fnExactReducedWeightsUptoRow.holds Try.pinned (OpenSpec.upto fnExactReducedWeightsSpec)

/-- 'laws.FnExactEvidenceOk', WHERE WHAT IT READS IS OF BULK AT MOST 1048576: true; the input reads as it did. -/
def fnExactEvidenceOkUptoRow : OpenClaim := { program := "ytbjmhbkpeglpkaa", sum := "a2511da439838329addcde887f4db9b4f2399c7ad365a2943fddc3027d48cf79", func := "loop.example/fairbooks/laws.FnExactEvidenceOk", spec := "fnExactEvidenceOk", apart := false, narrowed := true }
def FnExactEvidenceOkUptoSaid : Prop := fnExactEvidenceOkUptoRow.holds Try.pinned (OpenSpec.upto fnExactEvidenceOkSpec)

/-- 'laws.FnExactLearnedFrom', WHERE WHAT IT READS IS OF BULK AT MOST 1048576: true; the input reads as it did. -/
def fnExactLearnedFromUptoRow : OpenClaim := { program := "ytbjmhbkpeglpkaa", sum := "a2511da439838329addcde887f4db9b4f2399c7ad365a2943fddc3027d48cf79", func := "loop.example/fairbooks/laws.FnExactLearnedFrom", spec := "fnExactLearnedFrom", unfollowed := true, recurses := true, apart := false, narrowed := true }
def FnExactLearnedFromUptoSaid : Prop := fnExactLearnedFromUptoRow.holds Try.pinned (OpenSpec.upto fnExactLearnedFromSpec)

/-- 'laws.FnExactLearnedAll', WHERE WHAT IT READS IS OF BULK AT MOST 1048576: true; the input reads as it did. -/
def fnExactLearnedAllUptoRow : OpenClaim := { program := "ytbjmhbkpeglpkaa", sum := "a2511da439838329addcde887f4db9b4f2399c7ad365a2943fddc3027d48cf79", func := "loop.example/fairbooks/laws.FnExactLearnedAll", spec := "fnExactLearnedAll", unfollowed := true, recurses := true, apart := false, narrowed := true }
def FnExactLearnedAllUptoSaid : Prop := fnExactLearnedAllUptoRow.holds Try.pinned (OpenSpec.upto fnExactLearnedAllSpec)

/-- 'laws.FnExactBelievedOf', WHERE WHAT IT READS IS OF BULK AT MOST 1048576: true; the input reads as it did. -/
def fnExactBelievedOfUptoRow : OpenClaim := { program := "ytbjmhbkpeglpkaa", sum := "a2511da439838329addcde887f4db9b4f2399c7ad365a2943fddc3027d48cf79", func := "loop.example/fairbooks/laws.FnExactBelievedOf", spec := "fnExactBelievedOf", unfollowed := true, recurses := true, apart := false, narrowed := true }
def FnExactBelievedOfUptoSaid : Prop := fnExactBelievedOfUptoRow.holds Try.pinned (OpenSpec.upto fnExactBelievedOfSpec)

end Rows
end Go.Proofs.Ytbjmhbkpeglpkaa
