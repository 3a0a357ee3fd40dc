/-
  No cell of these rows narrows 'for every input' (looked for: loops, veiled, ifaces, maps, wideKeys, modest, calm, conditions, laid).
  DERIVED. THE GIVEN ROWS OF THIS SEAT. 15 by the template 'for every input the law returns true; each argument reads behind the call as it read before'; 0 by the template 'total and deterministic' (their statements: YtempdaodmjiloaaTotals.lean).
  GIVEN WITH THE SEED: the statements are not yours to turn. If you find one false, say at which input.
  Laid BY PROGRAM, IN A SANDBOX (cutbox-rows.mjs): the forced cells as the released guide's own fill.sh prints them over the translation c45f6748d4179d87… (all of the seat's roots in one cut). By AI agents, Wed Nov 11 2026. No macro, syntax, notation, axiom, sorry.
-/
import Derived.Test.YtempdaodmjiloaaChecked
import GoSem.Claim
import GoSem.ClaimJoined
import GoSem.ClaimMapViews
import Derived.JoinedTies
import Derived.KernelRfl
namespace Go.Proofs.Ytempdaodmjiloaa
/- THE CELL 'sum', in the pinned program and in every row, IS THE sha256 OF THE DUMP (.gsa) THAT YtempdaodmjiloaaProg.lean LOADS. Nothing in Lean hashes anything: it is a label: what it is worth is what the hold of that sum in a sandbox is worth. -/
noncomputable def Try.pinned : Pinned := { name := "ytempdaodmjiloaa", sum := "c45f6748d4179d87b23a2087401f821c0faec36c5feffe06735d86f3f93fe3a0", checked := Try.checked }
namespace Rows
def none {H : Type} : Left H := { results := [], args := [] }

/-- 'laws.FnTableOk': WHATEVER THE INPUT: true; the input reads as it did. -/
def fnTableOkSpec : ChangeSpec := { name := "fnTableOk", fn := fun _ => fun
  | [d] => { results := [.lit (.bool true)], args := [d] }
  | _ => none }
def fnTableOkRow : OpenClaim := { program := "ytempdaodmjiloaa", sum := "c45f6748d4179d87b23a2087401f821c0faec36c5feffe06735d86f3f93fe3a0", func := "loop.example/fairbooks/laws.FnTableOk", spec := "fnTableOk", apart := false }
def FnTableOkSaid : Prop := fnTableOkRow.holds Try.pinned (OpenSpec.ofChange fnTableOkSpec)

/-- ITS FALSE NEIGHBOUR: 'it returns false'. Refute it at one input. -/
def fnTableOkWrong : ChangeSpec := { name := "fnTableOk", fn := fun _ => fun
  | [d] => { results := [.lit (.bool false)], args := [d] }
  | _ => none }
def FnTableOkWrongFalsely : Prop := fnTableOkRow.holds Try.pinned (OpenSpec.ofChange fnTableOkWrong)

/-- 'laws.FnTableOf': WHATEVER THE INPUT: true; the input reads as it did. -/
def fnTableOfSpec : ChangeSpec := { name := "fnTableOf", fn := fun _ => fun
  | [d] => { results := [.lit (.bool true)], args := [d] }
  | _ => none }
def fnTableOfRow : OpenClaim := { program := "ytempdaodmjiloaa", sum := "c45f6748d4179d87b23a2087401f821c0faec36c5feffe06735d86f3f93fe3a0", func := "loop.example/fairbooks/laws.FnTableOf", spec := "fnTableOf", apart := false }
def FnTableOfSaid : Prop := fnTableOfRow.holds Try.pinned (OpenSpec.ofChange fnTableOfSpec)

/-- ITS FALSE NEIGHBOUR: 'it returns false'. Refute it at one input. -/
def fnTableOfWrong : ChangeSpec := { name := "fnTableOf", fn := fun _ => fun
  | [d] => { results := [.lit (.bool false)], args := [d] }
  | _ => none }
def FnTableOfWrongFalsely : Prop := fnTableOfRow.holds Try.pinned (OpenSpec.ofChange fnTableOfWrong)

/-- 'laws.FnFirstFault': WHATEVER THE INPUT: true; the input reads as it did. -/
def fnFirstFaultSpec : ChangeSpec := { name := "fnFirstFault", fn := fun _ => fun
  | [d] => { results := [.lit (.bool true)], args := [d] }
  | _ => none }
def fnFirstFaultRow : OpenClaim := { program := "ytempdaodmjiloaa", sum := "c45f6748d4179d87b23a2087401f821c0faec36c5feffe06735d86f3f93fe3a0", func := "loop.example/fairbooks/laws.FnFirstFault", spec := "fnFirstFault", apart := false }
def FnFirstFaultSaid : Prop := fnFirstFaultRow.holds Try.pinned (OpenSpec.ofChange fnFirstFaultSpec)

/-- ITS FALSE NEIGHBOUR: 'it returns false'. Refute it at one input. -/
def fnFirstFaultWrong : ChangeSpec := { name := "fnFirstFault", fn := fun _ => fun
  | [d] => { results := [.lit (.bool false)], args := [d] }
  | _ => none }
def FnFirstFaultWrongFalsely : Prop := fnFirstFaultRow.holds Try.pinned (OpenSpec.ofChange fnFirstFaultWrong)

/-- 'laws.FnAdditiveOk': WHATEVER THE INPUT: true; the input reads as it did. -/
def fnAdditiveOkSpec : ChangeSpec := { name := "fnAdditiveOk", fn := fun _ => fun
  | [d] => { results := [.lit (.bool true)], args := [d] }
  | _ => none }
def fnAdditiveOkRow : OpenClaim := { program := "ytempdaodmjiloaa", sum := "c45f6748d4179d87b23a2087401f821c0faec36c5feffe06735d86f3f93fe3a0", func := "loop.example/fairbooks/laws.FnAdditiveOk", spec := "fnAdditiveOk", apart := false }
def FnAdditiveOkSaid : Prop := fnAdditiveOkRow.holds Try.pinned (OpenSpec.ofChange fnAdditiveOkSpec)

/-- ITS FALSE NEIGHBOUR: 'it returns false'. Refute it at one input. -/
def fnAdditiveOkWrong : ChangeSpec := { name := "fnAdditiveOk", fn := fun _ => fun
  | [d] => { results := [.lit (.bool false)], args := [d] }
  | _ => none }
def FnAdditiveOkWrongFalsely : Prop := fnAdditiveOkRow.holds Try.pinned (OpenSpec.ofChange fnAdditiveOkWrong)

/-- 'laws.FnMeasureOf': WHATEVER THE INPUT: true; the input reads as it did. -/
def fnMeasureOfSpec : ChangeSpec := { name := "fnMeasureOf", fn := fun _ => fun
  | [d] => { results := [.lit (.bool true)], args := [d] }
  | _ => none }
def fnMeasureOfRow : OpenClaim := { program := "ytempdaodmjiloaa", sum := "c45f6748d4179d87b23a2087401f821c0faec36c5feffe06735d86f3f93fe3a0", func := "loop.example/fairbooks/laws.FnMeasureOf", spec := "fnMeasureOf", apart := false }
def FnMeasureOfSaid : Prop := fnMeasureOfRow.holds Try.pinned (OpenSpec.ofChange fnMeasureOfSpec)

/-- ITS FALSE NEIGHBOUR: 'it returns false'. Refute it at one input. -/
def fnMeasureOfWrong : ChangeSpec := { name := "fnMeasureOf", fn := fun _ => fun
  | [d] => { results := [.lit (.bool false)], args := [d] }
  | _ => none }
def FnMeasureOfWrongFalsely : Prop := fnMeasureOfRow.holds Try.pinned (OpenSpec.ofChange fnMeasureOfWrong)

/-- 'laws.FnBringsIn': WHATEVER THE INPUT: true; the input reads as it did. -/
def fnBringsInSpec : ChangeSpec := { name := "fnBringsIn", fn := fun _ => fun
  | [d] => { results := [.lit (.bool true)], args := [d] }
  | _ => none }
def fnBringsInRow : OpenClaim := { program := "ytempdaodmjiloaa", sum := "c45f6748d4179d87b23a2087401f821c0faec36c5feffe06735d86f3f93fe3a0", func := "loop.example/fairbooks/laws.FnBringsIn", spec := "fnBringsIn", apart := false }
def FnBringsInSaid : Prop := fnBringsInRow.holds Try.pinned (OpenSpec.ofChange fnBringsInSpec)

/-- ITS FALSE NEIGHBOUR: 'it returns false'. Refute it at one input. -/
def fnBringsInWrong : ChangeSpec := { name := "fnBringsIn", fn := fun _ => fun
  | [d] => { results := [.lit (.bool false)], args := [d] }
  | _ => none }
def FnBringsInWrongFalsely : Prop := fnBringsInRow.holds Try.pinned (OpenSpec.ofChange fnBringsInWrong)

/-- 'laws.FnBetsAgainst': WHATEVER THE INPUT: true; the input reads as it did. -/
def fnBetsAgainstSpec : ChangeSpec := { name := "fnBetsAgainst", fn := fun _ => fun
  | [d] => { results := [.lit (.bool true)], args := [d] }
  | _ => none }
def fnBetsAgainstRow : OpenClaim := { program := "ytempdaodmjiloaa", sum := "c45f6748d4179d87b23a2087401f821c0faec36c5feffe06735d86f3f93fe3a0", func := "loop.example/fairbooks/laws.FnBetsAgainst", spec := "fnBetsAgainst", apart := false }
def FnBetsAgainstSaid : Prop := fnBetsAgainstRow.holds Try.pinned (OpenSpec.ofChange fnBetsAgainstSpec)

/-- ITS FALSE NEIGHBOUR: 'it returns false'. Refute it at one input. -/
def fnBetsAgainstWrong : ChangeSpec := { name := "fnBetsAgainst", fn := fun _ => fun
  | [d] => { results := [.lit (.bool false)], args := [d] }
  | _ => none }
def FnBetsAgainstWrongFalsely : Prop := fnBetsAgainstRow.holds Try.pinned (OpenSpec.ofChange fnBetsAgainstWrong)

/-- 'laws.FnTableBook': WHATEVER THE INPUT: true; the input reads as it did. -/
def fnTableBookSpec : ChangeSpec := { name := "fnTableBook", fn := fun _ => fun
  | [d1, d2] => { results := [.lit (.bool true)], args := [d1, d2] }
  | _ => none }
def fnTableBookRow : OpenClaim := { program := "ytempdaodmjiloaa", sum := "c45f6748d4179d87b23a2087401f821c0faec36c5feffe06735d86f3f93fe3a0", func := "loop.example/fairbooks/laws.FnTableBook", spec := "fnTableBook", unfollowed := true, recurses := true, apart := false }
def FnTableBookSaid : Prop := fnTableBookRow.holds Try.pinned (OpenSpec.ofChange fnTableBookSpec)

/-- ITS FALSE NEIGHBOUR: 'it returns false'. Refute it at one input. -/
def fnTableBookWrong : ChangeSpec := { name := "fnTableBook", fn := fun _ => fun
  | [d1, d2] => { results := [.lit (.bool false)], args := [d1, d2] }
  | _ => none }
def FnTableBookWrongFalsely : Prop := fnTableBookRow.holds Try.pinned (OpenSpec.ofChange fnTableBookWrong)

/-- 'laws.FnExactTableOk': WHATEVER THE INPUT: true; the input reads as it did. -/
def fnExactTableOkSpec : ChangeSpec := { name := "fnExactTableOk", fn := fun _ => fun
  | [d1, d2] => { results := [.lit (.bool true)], args := [d1, d2] }
  | _ => none }
def fnExactTableOkRow : OpenClaim := { program := "ytempdaodmjiloaa", sum := "c45f6748d4179d87b23a2087401f821c0faec36c5feffe06735d86f3f93fe3a0", func := "loop.example/fairbooks/laws.FnExactTableOk", spec := "fnExactTableOk", apart := false }
def FnExactTableOkSaid : Prop := fnExactTableOkRow.holds Try.pinned (OpenSpec.ofChange fnExactTableOkSpec)

/-- ITS FALSE NEIGHBOUR: 'it returns false'. Refute it at one input. -/
def fnExactTableOkWrong : ChangeSpec := { name := "fnExactTableOk", fn := fun _ => fun
  | [d1, d2] => { results := [.lit (.bool false)], args := [d1, d2] }
  | _ => none }
def FnExactTableOkWrongFalsely : Prop := fnExactTableOkRow.holds Try.pinned (OpenSpec.ofChange fnExactTableOkWrong)

/-- 'laws.FnExactTableOf': WHATEVER THE INPUT: true; the input reads as it did. -/
def fnExactTableOfSpec : ChangeSpec := { name := "fnExactTableOf", fn := fun _ => fun
  | [d] => { results := [.lit (.bool true)], args := [d] }
  | _ => none }
def fnExactTableOfRow : OpenClaim := { program := "ytempdaodmjiloaa", sum := "c45f6748d4179d87b23a2087401f821c0faec36c5feffe06735d86f3f93fe3a0", func := "loop.example/fairbooks/laws.FnExactTableOf", spec := "fnExactTableOf", apart := false }
def FnExactTableOfSaid : Prop := fnExactTableOfRow.holds Try.pinned (OpenSpec.ofChange fnExactTableOfSpec)

/-- ITS FALSE NEIGHBOUR: 'it returns false'. Refute it at one input. -/
def fnExactTableOfWrong : ChangeSpec := { name := "fnExactTableOf", fn := fun _ => fun
  | [d] => { results := [.lit (.bool false)], args := [d] }
  | _ => none }
def FnExactTableOfWrongFalsely : Prop := fnExactTableOfRow.holds Try.pinned (OpenSpec.ofChange fnExactTableOfWrong)

/-- 'laws.FnExactFirstFault': WHATEVER THE INPUT: true; the input reads as it did. -/
def fnExactFirstFaultSpec : ChangeSpec := { name := "fnExactFirstFault", fn := fun _ => fun
  | [d1, d2] => { results := [.lit (.bool true)], args := [d1, d2] }
  | _ => none }
def fnExactFirstFaultRow : OpenClaim := { program := "ytempdaodmjiloaa", sum := "c45f6748d4179d87b23a2087401f821c0faec36c5feffe06735d86f3f93fe3a0", func := "loop.example/fairbooks/laws.FnExactFirstFault", spec := "fnExactFirstFault", apart := false }
def FnExactFirstFaultSaid : Prop := fnExactFirstFaultRow.holds Try.pinned (OpenSpec.ofChange fnExactFirstFaultSpec)

/-- ITS FALSE NEIGHBOUR: 'it returns false'. Refute it at one input. -/
def fnExactFirstFaultWrong : ChangeSpec := { name := "fnExactFirstFault", fn := fun _ => fun
  | [d1, d2] => { results := [.lit (.bool false)], args := [d1, d2] }
  | _ => none }
def FnExactFirstFaultWrongFalsely : Prop := fnExactFirstFaultRow.holds Try.pinned (OpenSpec.ofChange fnExactFirstFaultWrong)

/-- 'laws.FnExactAdditiveOk': WHATEVER THE INPUT: true; the input reads as it did. -/
def fnExactAdditiveOkSpec : ChangeSpec := { name := "fnExactAdditiveOk", fn := fun _ => fun
  | [d1, d2] => { results := [.lit (.bool true)], args := [d1, d2] }
  | _ => none }
def fnExactAdditiveOkRow : OpenClaim := { program := "ytempdaodmjiloaa", sum := "c45f6748d4179d87b23a2087401f821c0faec36c5feffe06735d86f3f93fe3a0", func := "loop.example/fairbooks/laws.FnExactAdditiveOk", spec := "fnExactAdditiveOk", apart := false }
def FnExactAdditiveOkSaid : Prop := fnExactAdditiveOkRow.holds Try.pinned (OpenSpec.ofChange fnExactAdditiveOkSpec)

/-- ITS FALSE NEIGHBOUR: 'it returns false'. Refute it at one input. -/
def fnExactAdditiveOkWrong : ChangeSpec := { name := "fnExactAdditiveOk", fn := fun _ => fun
  | [d1, d2] => { results := [.lit (.bool false)], args := [d1, d2] }
  | _ => none }
def FnExactAdditiveOkWrongFalsely : Prop := fnExactAdditiveOkRow.holds Try.pinned (OpenSpec.ofChange fnExactAdditiveOkWrong)

/-- 'laws.FnExactMeasureOf': WHATEVER THE INPUT: true; the input reads as it did. -/
def fnExactMeasureOfSpec : ChangeSpec := { name := "fnExactMeasureOf", fn := fun _ => fun
  | [d1, d2] => { results := [.lit (.bool true)], args := [d1, d2] }
  | _ => none }
def fnExactMeasureOfRow : OpenClaim := { program := "ytempdaodmjiloaa", sum := "c45f6748d4179d87b23a2087401f821c0faec36c5feffe06735d86f3f93fe3a0", func := "loop.example/fairbooks/laws.FnExactMeasureOf", spec := "fnExactMeasureOf", apart := false }
def FnExactMeasureOfSaid : Prop := fnExactMeasureOfRow.holds Try.pinned (OpenSpec.ofChange fnExactMeasureOfSpec)

/-- ITS FALSE NEIGHBOUR: 'it returns false'. Refute it at one input. -/
def fnExactMeasureOfWrong : ChangeSpec := { name := "fnExactMeasureOf", fn := fun _ => fun
  | [d1, d2] => { results := [.lit (.bool false)], args := [d1, d2] }
  | _ => none }
def FnExactMeasureOfWrongFalsely : Prop := fnExactMeasureOfRow.holds Try.pinned (OpenSpec.ofChange fnExactMeasureOfWrong)

/-- 'laws.FnExactBringsIn': WHATEVER THE INPUT: true; the input reads as it did. -/
def fnExactBringsInSpec : ChangeSpec := { name := "fnExactBringsIn", fn := fun _ => fun
  | [d1, d2] => { results := [.lit (.bool true)], args := [d1, d2] }
  | _ => none }
def fnExactBringsInRow : OpenClaim := { program := "ytempdaodmjiloaa", sum := "c45f6748d4179d87b23a2087401f821c0faec36c5feffe06735d86f3f93fe3a0", func := "loop.example/fairbooks/laws.FnExactBringsIn", spec := "fnExactBringsIn", apart := false }
def FnExactBringsInSaid : Prop := fnExactBringsInRow.holds Try.pinned (OpenSpec.ofChange fnExactBringsInSpec)

/-- ITS FALSE NEIGHBOUR: 'it returns false'. Refute it at one input. -/
def fnExactBringsInWrong : ChangeSpec := { name := "fnExactBringsIn", fn := fun _ => fun
  | [d1, d2] => { results := [.lit (.bool false)], args := [d1, d2] }
  | _ => none }
def FnExactBringsInWrongFalsely : Prop := fnExactBringsInRow.holds Try.pinned (OpenSpec.ofChange fnExactBringsInWrong)

/-- 'laws.FnExactBetsAgainst': WHATEVER THE INPUT: true; the input reads as it did. -/
def fnExactBetsAgainstSpec : ChangeSpec := { name := "fnExactBetsAgainst", fn := fun _ => fun
  | [d1, d2] => { results := [.lit (.bool true)], args := [d1, d2] }
  | _ => none }
def fnExactBetsAgainstRow : OpenClaim := { program := "ytempdaodmjiloaa", sum := "c45f6748d4179d87b23a2087401f821c0faec36c5feffe06735d86f3f93fe3a0", func := "loop.example/fairbooks/laws.FnExactBetsAgainst", spec := "fnExactBetsAgainst", apart := false }
def FnExactBetsAgainstSaid : Prop := fnExactBetsAgainstRow.holds Try.pinned (OpenSpec.ofChange fnExactBetsAgainstSpec)

/-- ITS FALSE NEIGHBOUR: 'it returns false'. Refute it at one input. -/
def fnExactBetsAgainstWrong : ChangeSpec := { name := "fnExactBetsAgainst", fn := fun _ => fun
  | [d1, d2] => { results := [.lit (.bool false)], args := [d1, d2] }
  | _ => none }
def FnExactBetsAgainstWrongFalsely : Prop := fnExactBetsAgainstRow.holds Try.pinned (OpenSpec.ofChange fnExactBetsAgainstWrong)

/- THE SECOND FORM. 'bulk': how many values and letters a reading holds, each counted each time it is reached (what is shared counts as often as it is met; a slice's spare places count too). A statement '..UptoSaid' is the law's where the arguments, and the package variables that the reading takes, are together of bulk at most 1048576: NARROWER than '..Said'. Prove '..Said' where nothing that the law and all that it calls make is longer than what came in: it says more and counts as full. Else prove '..UptoSaid'. A law counts once. -/
mutual
def uptoBulk {H : Type} : DataW H → Nat
  | .lit (.string bytes) => bytes.length + 1
  | .lit _ => 1
  | .nil => 1
  | .ptr d => uptoBulk d + 1
  | .slice elems spare => uptoBulkAll elems + uptoBulkAll spare + 1
  | .agg parts => uptoBulkAll parts + 1
  | .iface _ d => uptoBulk d + 1
  | .map entries => uptoBulkEntries entries + 1
  | .held _ => 1
def uptoBulkAll {H : Type} : List (DataW H) → Nat
  | [] => 0
  | d :: r => uptoBulk d + uptoBulkAll r
def uptoBulkEntries {H : Type} : List (Lit × DataW H) → Nat
  | [] => 0
  | x :: r => uptoBulkEntry x + uptoBulkEntries r
def uptoBulkEntry {H : Type} : Lit × DataW H → Nat
  | (.string bytes, d) => bytes.length + uptoBulk d + 1
  | (_, d) => uptoBulk d + 1
 end
def uptoSmall : (H : Type) → List (DataW H) → Bool := fun _ ds => decide (uptoBulkAll ds ≤ 1048576)
def OpenSpec.upto (s : _root_.Go.ChangeSpec) : _root_.Go.OpenSpec := { _root_.Go.OpenSpec.ofChange s with cond := some uptoSmall }

/-- 'laws.FnTableOk', WHERE WHAT IT READS IS OF BULK AT MOST 1048576: true; the input reads as it did. -/
def fnTableOkUptoRow : OpenClaim := { program := "ytempdaodmjiloaa", sum := "c45f6748d4179d87b23a2087401f821c0faec36c5feffe06735d86f3f93fe3a0", func := "loop.example/fairbooks/laws.FnTableOk", spec := "fnTableOk", apart := false, narrowed := true }
def FnTableOkUptoSaid : Prop := fnTableOkUptoRow.holds Try.pinned (OpenSpec.upto fnTableOkSpec)

/-- 'laws.FnTableOf', WHERE WHAT IT READS IS OF BULK AT MOST 1048576: true; the input reads as it did. -/
def fnTableOfUptoRow : OpenClaim := { program := "ytempdaodmjiloaa", sum := "c45f6748d4179d87b23a2087401f821c0faec36c5feffe06735d86f3f93fe3a0", func := "loop.example/fairbooks/laws.FnTableOf", spec := "fnTableOf", apart := false, narrowed := true }
def FnTableOfUptoSaid : Prop := fnTableOfUptoRow.holds Try.pinned (OpenSpec.upto fnTableOfSpec)

/-- 'laws.FnFirstFault', WHERE WHAT IT READS IS OF BULK AT MOST 1048576: true; the input reads as it did. -/
def fnFirstFaultUptoRow : OpenClaim := { program := "ytempdaodmjiloaa", sum := "c45f6748d4179d87b23a2087401f821c0faec36c5feffe06735d86f3f93fe3a0", func := "loop.example/fairbooks/laws.FnFirstFault", spec := "fnFirstFault", apart := false, narrowed := true }
def FnFirstFaultUptoSaid : Prop := fnFirstFaultUptoRow.holds Try.pinned (OpenSpec.upto fnFirstFaultSpec)

/-- 'laws.FnAdditiveOk', WHERE WHAT IT READS IS OF BULK AT MOST 1048576: true; the input reads as it did. -/
def fnAdditiveOkUptoRow : OpenClaim := { program := "ytempdaodmjiloaa", sum := "c45f6748d4179d87b23a2087401f821c0faec36c5feffe06735d86f3f93fe3a0", func := "loop.example/fairbooks/laws.FnAdditiveOk", spec := "fnAdditiveOk", apart := false, narrowed := true }
def FnAdditiveOkUptoSaid : Prop := fnAdditiveOkUptoRow.holds Try.pinned (OpenSpec.upto fnAdditiveOkSpec)

/-- 'laws.FnMeasureOf', WHERE WHAT IT READS IS OF BULK AT MOST 1048576: true; the input reads as it did. -/
def fnMeasureOfUptoRow : OpenClaim := { program := "ytempdaodmjiloaa", sum := "c45f6748d4179d87b23a2087401f821c0faec36c5feffe06735d86f3f93fe3a0", func := "loop.example/fairbooks/laws.FnMeasureOf", spec := "fnMeasureOf", apart := false, narrowed := true }
def FnMeasureOfUptoSaid : Prop := fnMeasureOfUptoRow.holds Try.pinned (OpenSpec.upto fnMeasureOfSpec)

/-- 'laws.FnBringsIn', WHERE WHAT IT READS IS OF BULK AT MOST 1048576: true; the input reads as it did. -/
def fnBringsInUptoRow : OpenClaim := { program := "ytempdaodmjiloaa", sum := "c45f6748d4179d87b23a2087401f821c0faec36c5feffe06735d86f3f93fe3a0", func := "loop.example/fairbooks/laws.FnBringsIn", spec := "fnBringsIn", apart := false, narrowed := true }
def FnBringsInUptoSaid : Prop := fnBringsInUptoRow.holds Try.pinned (OpenSpec.upto fnBringsInSpec)

/-- 'laws.FnBetsAgainst', WHERE WHAT IT READS IS OF BULK AT MOST 1048576: true; the input reads as it did. -/
def fnBetsAgainstUptoRow : OpenClaim := { program := "ytempdaodmjiloaa", sum := "c45f6748d4179d87b23a2087401f821c0faec36c5feffe06735d86f3f93fe3a0", func := "loop.example/fairbooks/laws.FnBetsAgainst", spec := "fnBetsAgainst", apart := false, narrowed := true }
def FnBetsAgainstUptoSaid : Prop := fnBetsAgainstUptoRow.holds Try.pinned (OpenSpec.upto fnBetsAgainstSpec)

/-- 'laws.FnTableBook', WHERE WHAT IT READS IS OF BULK AT MOST 1048576: true; the input reads as it did. -/
def fnTableBookUptoRow : OpenClaim := { program := "ytempdaodmjiloaa", sum := "c45f6748d4179d87b23a2087401f821c0faec36c5feffe06735d86f3f93fe3a0", func := "loop.example/fairbooks/laws.FnTableBook", spec := "fnTableBook", unfollowed := true, recurses := true, apart := false, narrowed := true }
def FnTableBookUptoSaid : Prop := fnTableBookUptoRow.holds Try.pinned (OpenSpec.upto fnTableBookSpec)

/-- 'laws.FnExactTableOk', WHERE WHAT IT READS IS OF BULK AT MOST 1048576: true; the input reads as it did. -/
def fnExactTableOkUptoRow : OpenClaim := { program := "ytempdaodmjiloaa", sum := "c45f6748d4179d87b23a2087401f821c0faec36c5feffe06735d86f3f93fe3a0", func := "loop.example/fairbooks/laws.FnExactTableOk", spec := "fnExactTableOk", apart := false, narrowed := true }
def FnExactTableOkUptoSaid : Prop := fnExactTableOkUptoRow.holds Try.pinned (OpenSpec.upto fnExactTableOkSpec)

/-- 'laws.FnExactTableOf', WHERE WHAT IT READS IS OF BULK AT MOST 1048576: true; the input reads as it did. -/
def fnExactTableOfUptoRow : OpenClaim := { program := "ytempdaodmjiloaa", sum := "c45f6748d4179d87b23a2087401f821c0faec36c5feffe06735d86f3f93fe3a0", func := "loop.example/fairbooks/laws.FnExactTableOf", spec := "fnExactTableOf", apart := false, narrowed := true }
def FnExactTableOfUptoSaid : Prop := fnExactTableOfUptoRow.holds Try.pinned (OpenSpec.upto fnExactTableOfSpec)

/-- 'laws.FnExactFirstFault', WHERE WHAT IT READS IS OF BULK AT MOST 1048576: true; the input reads as it did. -/
def fnExactFirstFaultUptoRow : OpenClaim := { program := "ytempdaodmjiloaa", sum := "c45f6748d4179d87b23a2087401f821c0faec36c5feffe06735d86f3f93fe3a0", func := "loop.example/fairbooks/laws.FnExactFirstFault", spec := "fnExactFirstFault", apart := false, narrowed := true }
def FnExactFirstFaultUptoSaid : Prop := fnExactFirstFaultUptoRow.holds Try.pinned (OpenSpec.upto fnExactFirstFaultSpec)

/-- 'laws.FnExactAdditiveOk', WHERE WHAT IT READS IS OF BULK AT MOST 1048576: true; the input reads as it did. -/
def fnExactAdditiveOkUptoRow : OpenClaim := { program := "ytempdaodmjiloaa", sum := "c45f6748d4179d87b23a2087401f821c0faec36c5feffe06735d86f3f93fe3a0", func := "loop.example/fairbooks/laws.FnExactAdditiveOk", spec := "fnExactAdditiveOk", apart := false, narrowed := true }
def FnExactAdditiveOkUptoSaid : Prop := fnExactAdditiveOkUptoRow.holds Try.pinned (OpenSpec.upto fnExactAdditiveOkSpec)

/-- 'laws.FnExactMeasureOf', WHERE WHAT IT READS IS OF BULK AT MOST 1048576: true; the input reads as it did. -/
def fnExactMeasureOfUptoRow : OpenClaim := { program := "ytempdaodmjiloaa", sum := "c45f6748d4179d87b23a2087401f821c0faec36c5feffe06735d86f3f93fe3a0", func := "loop.example/fairbooks/laws.FnExactMeasureOf", spec := "fnExactMeasureOf", apart := false, narrowed := true }
def FnExactMeasureOfUptoSaid : Prop := fnExactMeasureOfUptoRow.holds Try.pinned (OpenSpec.upto fnExactMeasureOfSpec)

/-- 'laws.FnExactBringsIn', WHERE WHAT IT READS IS OF BULK AT MOST 1048576: true; the input reads as it did. -/
def fnExactBringsInUptoRow : OpenClaim := { program := "ytempdaodmjiloaa", sum := "c45f6748d4179d87b23a2087401f821c0faec36c5feffe06735d86f3f93fe3a0", func := "loop.example/fairbooks/laws.FnExactBringsIn", spec := "fnExactBringsIn", apart := false, narrowed := true }
def FnExactBringsInUptoSaid : Prop := fnExactBringsInUptoRow.holds Try.pinned (OpenSpec.upto fnExactBringsInSpec)

/-- 'laws.FnExactBetsAgainst', WHERE WHAT IT READS IS OF BULK AT MOST 1048576: true; the input reads as it did. -/
def fnExactBetsAgainstUptoRow : OpenClaim := { program := "ytempdaodmjiloaa", sum := "c45f6748d4179d87b23a2087401f821c0faec36c5feffe06735d86f3f93fe3a0", func := "loop.example/fairbooks/laws.FnExactBetsAgainst", spec := "fnExactBetsAgainst", apart := false, narrowed := true }
def FnExactBetsAgainstUptoSaid : Prop := fnExactBetsAgainstUptoRow.holds Try.pinned (OpenSpec.upto fnExactBetsAgainstSpec)

end Rows
end Go.Proofs.Ytempdaodmjiloaa
