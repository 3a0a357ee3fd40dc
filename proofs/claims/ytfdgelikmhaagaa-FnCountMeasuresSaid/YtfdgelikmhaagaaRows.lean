/-
  No cell of these rows narrows 'for every input' (looked for: loops, veiled, ifaces, maps, wideKeys, modest, calm, conditions, laid).
  DERIVED. THE GIVEN ROWS OF THIS SEAT. 16 by the template 'for every input the law returns true; each argument reads behind the call as it read before'; 0 by the template 'total and deterministic' (their statements: YtfdgelikmhaagaaTotals.lean).
  GIVEN WITH THE SEED: the statements are not yours to turn. If you find one false, say at which input.
  Laid BY PROGRAM, IN A SANDBOX (cutbox-rows.mjs): the forced cells as the released guide's own fill.sh prints them over the translation f617e97bbe76345a… (all of the seat's roots in one cut). By AI agents, Wed Nov 11 2026. No macro, syntax, notation, axiom, sorry.
-/
import Derived.Test.YtfdgelikmhaagaaChecked
import GoSem.Claim
import GoSem.ClaimJoined
import GoSem.ClaimMapViews
import Derived.JoinedTies
import Derived.KernelRfl
namespace Go.Proofs.Ytfdgelikmhaagaa
/- THE CELL 'sum', in the pinned program and in every row, IS THE sha256 OF THE DUMP (.gsa) THAT YtfdgelikmhaagaaProg.lean LOADS. Nothing in Lean hashes anything: it is a label: what it is worth is what the hold of that sum in a sandbox is worth. -/
noncomputable def Try.pinned : Pinned := { name := "ytfdgelikmhaagaa", sum := "f617e97bbe76345a2dd8bb446d11d14d4100edecdf27bd83e969e8379db81b1a", checked := Try.checked }
namespace Rows
def none {H : Type} : Left H := { results := [], args := [] }

/-- 'laws.FnMeasureOk': WHATEVER THE INPUT: true; the input reads as it did. -/
def fnMeasureOkSpec : ChangeSpec := { name := "fnMeasureOk", fn := fun _ => fun
  | [d] => { results := [.lit (.bool true)], args := [d] }
  | _ => none }
def fnMeasureOkRow : OpenClaim := { program := "ytfdgelikmhaagaa", sum := "f617e97bbe76345a2dd8bb446d11d14d4100edecdf27bd83e969e8379db81b1a", func := "loop.example/fairbooks/laws.FnMeasureOk", spec := "fnMeasureOk", apart := false }
def FnMeasureOkSaid : Prop := fnMeasureOkRow.holds Try.pinned (OpenSpec.ofChange fnMeasureOkSpec)

/-- ITS FALSE NEIGHBOUR: 'it returns false'. Refute it at one input. -/
def fnMeasureOkWrong : ChangeSpec := { name := "fnMeasureOk", fn := fun _ => fun
  | [d] => { results := [.lit (.bool false)], args := [d] }
  | _ => none }
def FnMeasureOkWrongFalsely : Prop := fnMeasureOkRow.holds Try.pinned (OpenSpec.ofChange fnMeasureOkWrong)

/-- 'laws.FnGrainsOn': WHATEVER THE INPUT: true; the input reads as it did. -/
def fnGrainsOnSpec : ChangeSpec := { name := "fnGrainsOn", fn := fun _ => fun
  | [d] => { results := [.lit (.bool true)], args := [d] }
  | _ => none }
def fnGrainsOnRow : OpenClaim := { program := "ytfdgelikmhaagaa", sum := "f617e97bbe76345a2dd8bb446d11d14d4100edecdf27bd83e969e8379db81b1a", func := "loop.example/fairbooks/laws.FnGrainsOn", spec := "fnGrainsOn", apart := false }
def FnGrainsOnSaid : Prop := fnGrainsOnRow.holds Try.pinned (OpenSpec.ofChange fnGrainsOnSpec)

/-- ITS FALSE NEIGHBOUR: 'it returns false'. Refute it at one input. -/
def fnGrainsOnWrong : ChangeSpec := { name := "fnGrainsOn", fn := fun _ => fun
  | [d] => { results := [.lit (.bool false)], args := [d] }
  | _ => none }
def FnGrainsOnWrongFalsely : Prop := fnGrainsOnRow.holds Try.pinned (OpenSpec.ofChange fnGrainsOnWrong)

/-- 'laws.FnBringsBy': WHATEVER THE INPUT: true; the input reads as it did. -/
def fnBringsBySpec : ChangeSpec := { name := "fnBringsBy", fn := fun _ => fun
  | [d] => { results := [.lit (.bool true)], args := [d] }
  | _ => none }
def fnBringsByRow : OpenClaim := { program := "ytfdgelikmhaagaa", sum := "f617e97bbe76345a2dd8bb446d11d14d4100edecdf27bd83e969e8379db81b1a", func := "loop.example/fairbooks/laws.FnBringsBy", spec := "fnBringsBy", unfollowed := true, recurses := true, apart := false }
def FnBringsBySaid : Prop := fnBringsByRow.holds Try.pinned (OpenSpec.ofChange fnBringsBySpec)

/-- ITS FALSE NEIGHBOUR: 'it returns false'. Refute it at one input. -/
def fnBringsByWrong : ChangeSpec := { name := "fnBringsBy", fn := fun _ => fun
  | [d] => { results := [.lit (.bool false)], args := [d] }
  | _ => none }
def FnBringsByWrongFalsely : Prop := fnBringsByRow.holds Try.pinned (OpenSpec.ofChange fnBringsByWrong)

/-- 'laws.FnFitsOk': WHATEVER THE INPUT: true; the input reads as it did. -/
def fnFitsOkSpec : ChangeSpec := { name := "fnFitsOk", fn := fun _ => fun
  | [d1, d2] => { results := [.lit (.bool true)], args := [d1, d2] }
  | _ => none }
def fnFitsOkRow : OpenClaim := { program := "ytfdgelikmhaagaa", sum := "f617e97bbe76345a2dd8bb446d11d14d4100edecdf27bd83e969e8379db81b1a", func := "loop.example/fairbooks/laws.FnFitsOk", spec := "fnFitsOk", unfollowed := true, recurses := true, apart := false }
def FnFitsOkSaid : Prop := fnFitsOkRow.holds Try.pinned (OpenSpec.ofChange fnFitsOkSpec)

/-- ITS FALSE NEIGHBOUR: 'it returns false'. Refute it at one input. -/
def fnFitsOkWrong : ChangeSpec := { name := "fnFitsOk", fn := fun _ => fun
  | [d1, d2] => { results := [.lit (.bool false)], args := [d1, d2] }
  | _ => none }
def FnFitsOkWrongFalsely : Prop := fnFitsOkRow.holds Try.pinned (OpenSpec.ofChange fnFitsOkWrong)

/-- 'laws.FnFirstMeasure': WHATEVER THE INPUT: true; the input reads as it did. -/
def fnFirstMeasureSpec : ChangeSpec := { name := "fnFirstMeasure", fn := fun _ => fun
  | [d] => { results := [.lit (.bool true)], args := [d] }
  | _ => none }
def fnFirstMeasureRow : OpenClaim := { program := "ytfdgelikmhaagaa", sum := "f617e97bbe76345a2dd8bb446d11d14d4100edecdf27bd83e969e8379db81b1a", func := "loop.example/fairbooks/laws.FnFirstMeasure", spec := "fnFirstMeasure", unfollowed := true, recurses := true, apart := false }
def FnFirstMeasureSaid : Prop := fnFirstMeasureRow.holds Try.pinned (OpenSpec.ofChange fnFirstMeasureSpec)

/-- ITS FALSE NEIGHBOUR: 'it returns false'. Refute it at one input. -/
def fnFirstMeasureWrong : ChangeSpec := { name := "fnFirstMeasure", fn := fun _ => fun
  | [d] => { results := [.lit (.bool false)], args := [d] }
  | _ => none }
def FnFirstMeasureWrongFalsely : Prop := fnFirstMeasureRow.holds Try.pinned (OpenSpec.ofChange fnFirstMeasureWrong)

/-- 'laws.FnFairOk': WHATEVER THE INPUT: true; the input reads as it did. -/
def fnFairOkSpec : ChangeSpec := { name := "fnFairOk", fn := fun _ => fun
  | [d] => { results := [.lit (.bool true)], args := [d] }
  | _ => none }
def fnFairOkRow : OpenClaim := { program := "ytfdgelikmhaagaa", sum := "f617e97bbe76345a2dd8bb446d11d14d4100edecdf27bd83e969e8379db81b1a", func := "loop.example/fairbooks/laws.FnFairOk", spec := "fnFairOk", unfollowed := true, recurses := true, apart := false }
def FnFairOkSaid : Prop := fnFairOkRow.holds Try.pinned (OpenSpec.ofChange fnFairOkSpec)

/-- ITS FALSE NEIGHBOUR: 'it returns false'. Refute it at one input. -/
def fnFairOkWrong : ChangeSpec := { name := "fnFairOk", fn := fun _ => fun
  | [d] => { results := [.lit (.bool false)], args := [d] }
  | _ => none }
def FnFairOkWrongFalsely : Prop := fnFairOkRow.holds Try.pinned (OpenSpec.ofChange fnFairOkWrong)

/-- 'laws.FnCountMeasures': WHATEVER THE INPUT: true; the input reads as it did. -/
def fnCountMeasuresSpec : ChangeSpec := { name := "fnCountMeasures", fn := fun _ => fun
  | [d] => { results := [.lit (.bool true)], args := [d] }
  | _ => none }
def fnCountMeasuresRow : OpenClaim := { program := "ytfdgelikmhaagaa", sum := "f617e97bbe76345a2dd8bb446d11d14d4100edecdf27bd83e969e8379db81b1a", func := "loop.example/fairbooks/laws.FnCountMeasures", spec := "fnCountMeasures", unfollowed := true, recurses := true, apart := false }
def FnCountMeasuresSaid : Prop := fnCountMeasuresRow.holds Try.pinned (OpenSpec.ofChange fnCountMeasuresSpec)

/-- ITS FALSE NEIGHBOUR: 'it returns false'. Refute it at one input. -/
def fnCountMeasuresWrong : ChangeSpec := { name := "fnCountMeasures", fn := fun _ => fun
  | [d] => { results := [.lit (.bool false)], args := [d] }
  | _ => none }
def FnCountMeasuresWrongFalsely : Prop := fnCountMeasuresRow.holds Try.pinned (OpenSpec.ofChange fnCountMeasuresWrong)

/-- 'laws.FnMixedMeasure': WHATEVER THE INPUT: true; the input reads as it did. -/
def fnMixedMeasureSpec : ChangeSpec := { name := "fnMixedMeasure", fn := fun _ => fun
  | [d1, d2] => { results := [.lit (.bool true)], args := [d1, d2] }
  | _ => none }
def fnMixedMeasureRow : OpenClaim := { program := "ytfdgelikmhaagaa", sum := "f617e97bbe76345a2dd8bb446d11d14d4100edecdf27bd83e969e8379db81b1a", func := "loop.example/fairbooks/laws.FnMixedMeasure", spec := "fnMixedMeasure", unfollowed := true, recurses := true, apart := false }
def FnMixedMeasureSaid : Prop := fnMixedMeasureRow.holds Try.pinned (OpenSpec.ofChange fnMixedMeasureSpec)

/-- ITS FALSE NEIGHBOUR: 'it returns false'. Refute it at one input. -/
def fnMixedMeasureWrong : ChangeSpec := { name := "fnMixedMeasure", fn := fun _ => fun
  | [d1, d2] => { results := [.lit (.bool false)], args := [d1, d2] }
  | _ => none }
def FnMixedMeasureWrongFalsely : Prop := fnMixedMeasureRow.holds Try.pinned (OpenSpec.ofChange fnMixedMeasureWrong)

/-- 'laws.FnExactMeasureOk': WHATEVER THE INPUT: true; the input reads as it did. -/
def fnExactMeasureOkSpec : ChangeSpec := { name := "fnExactMeasureOk", fn := fun _ => fun
  | [d] => { results := [.lit (.bool true)], args := [d] }
  | _ => none }
def fnExactMeasureOkRow : OpenClaim := { program := "ytfdgelikmhaagaa", sum := "f617e97bbe76345a2dd8bb446d11d14d4100edecdf27bd83e969e8379db81b1a", func := "loop.example/fairbooks/laws.FnExactMeasureOk", spec := "fnExactMeasureOk", apart := false }
def FnExactMeasureOkSaid : Prop := fnExactMeasureOkRow.holds Try.pinned (OpenSpec.ofChange fnExactMeasureOkSpec)

/-- ITS FALSE NEIGHBOUR: 'it returns false'. Refute it at one input. -/
def fnExactMeasureOkWrong : ChangeSpec := { name := "fnExactMeasureOk", fn := fun _ => fun
  | [d] => { results := [.lit (.bool false)], args := [d] }
  | _ => none }
def FnExactMeasureOkWrongFalsely : Prop := fnExactMeasureOkRow.holds Try.pinned (OpenSpec.ofChange fnExactMeasureOkWrong)

/-- 'laws.FnExactGrainsOn': WHATEVER THE INPUT: true; the input reads as it did. -/
def fnExactGrainsOnSpec : ChangeSpec := { name := "fnExactGrainsOn", fn := fun _ => fun
  | [d1, d2] => { results := [.lit (.bool true)], args := [d1, d2] }
  | _ => none }
def fnExactGrainsOnRow : OpenClaim := { program := "ytfdgelikmhaagaa", sum := "f617e97bbe76345a2dd8bb446d11d14d4100edecdf27bd83e969e8379db81b1a", func := "loop.example/fairbooks/laws.FnExactGrainsOn", spec := "fnExactGrainsOn", apart := false }
def FnExactGrainsOnSaid : Prop := fnExactGrainsOnRow.holds Try.pinned (OpenSpec.ofChange fnExactGrainsOnSpec)

/-- ITS FALSE NEIGHBOUR: 'it returns false'. Refute it at one input. -/
def fnExactGrainsOnWrong : ChangeSpec := { name := "fnExactGrainsOn", fn := fun _ => fun
  | [d1, d2] => { results := [.lit (.bool false)], args := [d1, d2] }
  | _ => none }
def FnExactGrainsOnWrongFalsely : Prop := fnExactGrainsOnRow.holds Try.pinned (OpenSpec.ofChange fnExactGrainsOnWrong)

/-- 'laws.FnExactBringsBy': WHATEVER THE INPUT: true; the input reads as it did. -/
def fnExactBringsBySpec : ChangeSpec := { name := "fnExactBringsBy", fn := fun _ => fun
  | [d1, d2] => { results := [.lit (.bool true)], args := [d1, d2] }
  | _ => none }
def fnExactBringsByRow : OpenClaim := { program := "ytfdgelikmhaagaa", sum := "f617e97bbe76345a2dd8bb446d11d14d4100edecdf27bd83e969e8379db81b1a", func := "loop.example/fairbooks/laws.FnExactBringsBy", spec := "fnExactBringsBy", apart := false }
def FnExactBringsBySaid : Prop := fnExactBringsByRow.holds Try.pinned (OpenSpec.ofChange fnExactBringsBySpec)

/-- ITS FALSE NEIGHBOUR: 'it returns false'. Refute it at one input. -/
def fnExactBringsByWrong : ChangeSpec := { name := "fnExactBringsBy", fn := fun _ => fun
  | [d1, d2] => { results := [.lit (.bool false)], args := [d1, d2] }
  | _ => none }
def FnExactBringsByWrongFalsely : Prop := fnExactBringsByRow.holds Try.pinned (OpenSpec.ofChange fnExactBringsByWrong)

/-- 'laws.FnExactFitsOk': WHATEVER THE INPUT: true; the input reads as it did. -/
def fnExactFitsOkSpec : ChangeSpec := { name := "fnExactFitsOk", fn := fun _ => fun
  | [d1, d2] => { results := [.lit (.bool true)], args := [d1, d2] }
  | _ => none }
def fnExactFitsOkRow : OpenClaim := { program := "ytfdgelikmhaagaa", sum := "f617e97bbe76345a2dd8bb446d11d14d4100edecdf27bd83e969e8379db81b1a", func := "loop.example/fairbooks/laws.FnExactFitsOk", spec := "fnExactFitsOk", unfollowed := true, recurses := true, apart := false }
def FnExactFitsOkSaid : Prop := fnExactFitsOkRow.holds Try.pinned (OpenSpec.ofChange fnExactFitsOkSpec)

/-- ITS FALSE NEIGHBOUR: 'it returns false'. Refute it at one input. -/
def fnExactFitsOkWrong : ChangeSpec := { name := "fnExactFitsOk", fn := fun _ => fun
  | [d1, d2] => { results := [.lit (.bool false)], args := [d1, d2] }
  | _ => none }
def FnExactFitsOkWrongFalsely : Prop := fnExactFitsOkRow.holds Try.pinned (OpenSpec.ofChange fnExactFitsOkWrong)

/-- 'laws.FnExactFirstMeasure': WHATEVER THE INPUT: true; the input reads as it did. -/
def fnExactFirstMeasureSpec : ChangeSpec := { name := "fnExactFirstMeasure", fn := fun _ => fun
  | [d1, d2] => { results := [.lit (.bool true)], args := [d1, d2] }
  | _ => none }
def fnExactFirstMeasureRow : OpenClaim := { program := "ytfdgelikmhaagaa", sum := "f617e97bbe76345a2dd8bb446d11d14d4100edecdf27bd83e969e8379db81b1a", func := "loop.example/fairbooks/laws.FnExactFirstMeasure", spec := "fnExactFirstMeasure", unfollowed := true, recurses := true, apart := false }
def FnExactFirstMeasureSaid : Prop := fnExactFirstMeasureRow.holds Try.pinned (OpenSpec.ofChange fnExactFirstMeasureSpec)

/-- ITS FALSE NEIGHBOUR: 'it returns false'. Refute it at one input. -/
def fnExactFirstMeasureWrong : ChangeSpec := { name := "fnExactFirstMeasure", fn := fun _ => fun
  | [d1, d2] => { results := [.lit (.bool false)], args := [d1, d2] }
  | _ => none }
def FnExactFirstMeasureWrongFalsely : Prop := fnExactFirstMeasureRow.holds Try.pinned (OpenSpec.ofChange fnExactFirstMeasureWrong)

/-- 'laws.FnExactFairOk': WHATEVER THE INPUT: true; the input reads as it did. -/
def fnExactFairOkSpec : ChangeSpec := { name := "fnExactFairOk", fn := fun _ => fun
  | [d1, d2] => { results := [.lit (.bool true)], args := [d1, d2] }
  | _ => none }
def fnExactFairOkRow : OpenClaim := { program := "ytfdgelikmhaagaa", sum := "f617e97bbe76345a2dd8bb446d11d14d4100edecdf27bd83e969e8379db81b1a", func := "loop.example/fairbooks/laws.FnExactFairOk", spec := "fnExactFairOk", unfollowed := true, recurses := true, apart := false }
def FnExactFairOkSaid : Prop := fnExactFairOkRow.holds Try.pinned (OpenSpec.ofChange fnExactFairOkSpec)

/-- ITS FALSE NEIGHBOUR: 'it returns false'. Refute it at one input. -/
def fnExactFairOkWrong : ChangeSpec := { name := "fnExactFairOk", fn := fun _ => fun
  | [d1, d2] => { results := [.lit (.bool false)], args := [d1, d2] }
  | _ => none }
def FnExactFairOkWrongFalsely : Prop := fnExactFairOkRow.holds Try.pinned (OpenSpec.ofChange fnExactFairOkWrong)

/-- 'laws.FnExactCountMeasures': WHATEVER THE INPUT: true; the input reads as it did. -/
def fnExactCountMeasuresSpec : ChangeSpec := { name := "fnExactCountMeasures", fn := fun _ => fun
  | [d1, d2] => { results := [.lit (.bool true)], args := [d1, d2] }
  | _ => none }
def fnExactCountMeasuresRow : OpenClaim := { program := "ytfdgelikmhaagaa", sum := "f617e97bbe76345a2dd8bb446d11d14d4100edecdf27bd83e969e8379db81b1a", func := "loop.example/fairbooks/laws.FnExactCountMeasures", spec := "fnExactCountMeasures", unfollowed := true, recurses := true, apart := false }
def FnExactCountMeasuresSaid : Prop := fnExactCountMeasuresRow.holds Try.pinned (OpenSpec.ofChange fnExactCountMeasuresSpec)

/-- ITS FALSE NEIGHBOUR: 'it returns false'. Refute it at one input. -/
def fnExactCountMeasuresWrong : ChangeSpec := { name := "fnExactCountMeasures", fn := fun _ => fun
  | [d1, d2] => { results := [.lit (.bool false)], args := [d1, d2] }
  | _ => none }
def FnExactCountMeasuresWrongFalsely : Prop := fnExactCountMeasuresRow.holds Try.pinned (OpenSpec.ofChange fnExactCountMeasuresWrong)

/-- 'laws.FnExactMixedMeasure': WHATEVER THE INPUT: true; the input reads as it did. -/
def fnExactMixedMeasureSpec : ChangeSpec := { name := "fnExactMixedMeasure", fn := fun _ => fun
  | [d1, d2] => { results := [.lit (.bool true)], args := [d1, d2] }
  | _ => none }
def fnExactMixedMeasureRow : OpenClaim := { program := "ytfdgelikmhaagaa", sum := "f617e97bbe76345a2dd8bb446d11d14d4100edecdf27bd83e969e8379db81b1a", func := "loop.example/fairbooks/laws.FnExactMixedMeasure", spec := "fnExactMixedMeasure", apart := false }
def FnExactMixedMeasureSaid : Prop := fnExactMixedMeasureRow.holds Try.pinned (OpenSpec.ofChange fnExactMixedMeasureSpec)

/-- ITS FALSE NEIGHBOUR: 'it returns false'. Refute it at one input. -/
def fnExactMixedMeasureWrong : ChangeSpec := { name := "fnExactMixedMeasure", fn := fun _ => fun
  | [d1, d2] => { results := [.lit (.bool false)], args := [d1, d2] }
  | _ => none }
def FnExactMixedMeasureWrongFalsely : Prop := fnExactMixedMeasureRow.holds Try.pinned (OpenSpec.ofChange fnExactMixedMeasureWrong)

/- THE SECOND FORM. 'bulk': how many values and letters a reading holds, each counted each time it is reached (what is shared counts as often as it is met; a slice's spare places count too). A statement '..UptoSaid' is the law's where the arguments, and the package variables that the reading takes, are together of bulk at most 1048576: NARROWER than '..Said'. Prove '..Said' where nothing that the law and all that it calls make is longer than what came in: it says more and counts as full. Else prove '..UptoSaid'. A law counts once. -/
mutual
def uptoBulk {H : Type} : DataW H → Nat
  | .lit (.string bytes) => bytes.length + 1
  | .lit _ => 1
  | .nil => 1
  | .ptr d => uptoBulk d + 1
  | .slice elems spare => uptoBulkAll elems + uptoBulkAll spare + 1
  | .agg parts => uptoBulkAll parts + 1
  | .iface _ d => uptoBulk d + 1
  | .map entries => uptoBulkEntries entries + 1
  | .held _ => 1
def uptoBulkAll {H : Type} : List (DataW H) → Nat
  | [] => 0
  | d :: r => uptoBulk d + uptoBulkAll r
def uptoBulkEntries {H : Type} : List (Lit × DataW H) → Nat
  | [] => 0
  | x :: r => uptoBulkEntry x + uptoBulkEntries r
def uptoBulkEntry {H : Type} : Lit × DataW H → Nat
  | (.string bytes, d) => bytes.length + uptoBulk d + 1
  | (_, d) => uptoBulk d + 1
 end
def uptoSmall : (H : Type) → List (DataW H) → Bool := fun _ ds => decide (uptoBulkAll ds ≤ 1048576)
def OpenSpec.upto (s : _root_.Go.ChangeSpec) : _root_.Go.OpenSpec := { _root_.Go.OpenSpec.ofChange s with cond := some uptoSmall }

/-- 'laws.FnMeasureOk', WHERE WHAT IT READS IS OF BULK AT MOST 1048576: true; the input reads as it did. -/
def fnMeasureOkUptoRow : OpenClaim := { program := "ytfdgelikmhaagaa", sum := "f617e97bbe76345a2dd8bb446d11d14d4100edecdf27bd83e969e8379db81b1a", func := "loop.example/fairbooks/laws.FnMeasureOk", spec := "fnMeasureOk", apart := false, narrowed := true }
def FnMeasureOkUptoSaid : Prop := fnMeasureOkUptoRow.holds Try.pinned (OpenSpec.upto fnMeasureOkSpec)

/-- 'laws.FnGrainsOn', WHERE WHAT IT READS IS OF BULK AT MOST 1048576: true; the input reads as it did. -/
def fnGrainsOnUptoRow : OpenClaim := { program := "ytfdgelikmhaagaa", sum := "f617e97bbe76345a2dd8bb446d11d14d4100edecdf27bd83e969e8379db81b1a", func := "loop.example/fairbooks/laws.FnGrainsOn", spec := "fnGrainsOn", apart := false, narrowed := true }
def FnGrainsOnUptoSaid : Prop := fnGrainsOnUptoRow.holds Try.pinned (OpenSpec.upto fnGrainsOnSpec)

/-- 'laws.FnBringsBy', WHERE WHAT IT READS IS OF BULK AT MOST 1048576: true; the input reads as it did. -/
def fnBringsByUptoRow : OpenClaim := { program := "ytfdgelikmhaagaa", sum := "f617e97bbe76345a2dd8bb446d11d14d4100edecdf27bd83e969e8379db81b1a", func := "loop.example/fairbooks/laws.FnBringsBy", spec := "fnBringsBy", unfollowed := true, recurses := true, apart := false, narrowed := true }
def FnBringsByUptoSaid : Prop := fnBringsByUptoRow.holds Try.pinned (OpenSpec.upto fnBringsBySpec)

/-- 'laws.FnFitsOk', WHERE WHAT IT READS IS OF BULK AT MOST 1048576: true; the input reads as it did. -/
def fnFitsOkUptoRow : OpenClaim := { program := "ytfdgelikmhaagaa", sum := "f617e97bbe76345a2dd8bb446d11d14d4100edecdf27bd83e969e8379db81b1a", func := "loop.example/fairbooks/laws.FnFitsOk", spec := "fnFitsOk", unfollowed := true, recurses := true, apart := false, narrowed := true }
def FnFitsOkUptoSaid : Prop := fnFitsOkUptoRow.holds Try.pinned (OpenSpec.upto fnFitsOkSpec)

/-- 'laws.FnFirstMeasure', WHERE WHAT IT READS IS OF BULK AT MOST 1048576: true; the input reads as it did. -/
def fnFirstMeasureUptoRow : OpenClaim := { program := "ytfdgelikmhaagaa", sum := "f617e97bbe76345a2dd8bb446d11d14d4100edecdf27bd83e969e8379db81b1a", func := "loop.example/fairbooks/laws.FnFirstMeasure", spec := "fnFirstMeasure", unfollowed := true, recurses := true, apart := false, narrowed := true }
def FnFirstMeasureUptoSaid : Prop := fnFirstMeasureUptoRow.holds Try.pinned (OpenSpec.upto fnFirstMeasureSpec)

/-- 'laws.FnFairOk', WHERE WHAT IT READS IS OF BULK AT MOST 1048576: true; the input reads as it did. -/
def fnFairOkUptoRow : OpenClaim := { program := "ytfdgelikmhaagaa", sum := "f617e97bbe76345a2dd8bb446d11d14d4100edecdf27bd83e969e8379db81b1a", func := "loop.example/fairbooks/laws.FnFairOk", spec := "fnFairOk", unfollowed := true, recurses := true, apart := false, narrowed := true }
def FnFairOkUptoSaid : Prop := fnFairOkUptoRow.holds Try.pinned (OpenSpec.upto fnFairOkSpec)

/-- 'laws.FnCountMeasures', WHERE WHAT IT READS IS OF BULK AT MOST 1048576: true; the input reads as it did. -/
def fnCountMeasuresUptoRow : OpenClaim := { program := "ytfdgelikmhaagaa", sum := "f617e97bbe76345a2dd8bb446d11d14d4100edecdf27bd83e969e8379db81b1a", func := "loop.example/fairbooks/laws.FnCountMeasures", spec := "fnCountMeasures", unfollowed := true, recurses := true, apart := false, narrowed := true }
def FnCountMeasuresUptoSaid : Prop := fnCountMeasuresUptoRow.holds Try.pinned (OpenSpec.upto fnCountMeasuresSpec)

/-- 'laws.FnMixedMeasure', WHERE WHAT IT READS IS OF BULK AT MOST 1048576: true; the input reads as it did. -/
def fnMixedMeasureUptoRow : OpenClaim := { program := "ytfdgelikmhaagaa", sum := "f617e97bbe76345a2dd8bb446d11d14d4100edecdf27bd83e969e8379db81b1a", func := "loop.example/fairbooks/laws.FnMixedMeasure", spec := "fnMixedMeasure", unfollowed := true, recurses := true, apart := false, narrowed := true }
def FnMixedMeasureUptoSaid : Prop := fnMixedMeasureUptoRow.holds Try.pinned (OpenSpec.upto fnMixedMeasureSpec)

/-- 'laws.FnExactMeasureOk', WHERE WHAT IT READS IS OF BULK AT MOST 1048576: true; the input reads as it did. -/
def fnExactMeasureOkUptoRow : OpenClaim := { program := "ytfdgelikmhaagaa", sum := "f617e97bbe76345a2dd8bb446d11d14d4100edecdf27bd83e969e8379db81b1a", func := "loop.example/fairbooks/laws.FnExactMeasureOk", spec := "fnExactMeasureOk", apart := false, narrowed := true }
def FnExactMeasureOkUptoSaid : Prop := fnExactMeasureOkUptoRow.holds Try.pinned (OpenSpec.upto fnExactMeasureOkSpec)

/-- 'laws.FnExactGrainsOn', WHERE WHAT IT READS IS OF BULK AT MOST 1048576: true; the input reads as it did. -/
def fnExactGrainsOnUptoRow : OpenClaim := { program := "ytfdgelikmhaagaa", sum := "f617e97bbe76345a2dd8bb446d11d14d4100edecdf27bd83e969e8379db81b1a", func := "loop.example/fairbooks/laws.FnExactGrainsOn", spec := "fnExactGrainsOn", apart := false, narrowed := true }
def FnExactGrainsOnUptoSaid : Prop := fnExactGrainsOnUptoRow.holds Try.pinned (OpenSpec.upto fnExactGrainsOnSpec)

/-- 'laws.FnExactBringsBy', WHERE WHAT IT READS IS OF BULK AT MOST 1048576: true; the input reads as it did. -/
def fnExactBringsByUptoRow : OpenClaim := { program := "ytfdgelikmhaagaa", sum := "f617e97bbe76345a2dd8bb446d11d14d4100edecdf27bd83e969e8379db81b1a", func := "loop.example/fairbooks/laws.FnExactBringsBy", spec := "fnExactBringsBy", apart := false, narrowed := true }
def FnExactBringsByUptoSaid : Prop := fnExactBringsByUptoRow.holds Try.pinned (OpenSpec.upto fnExactBringsBySpec)

/-- 'laws.FnExactFitsOk', WHERE WHAT IT READS IS OF BULK AT MOST 1048576: true; the input reads as it did. -/
def fnExactFitsOkUptoRow : OpenClaim := { program := "ytfdgelikmhaagaa", sum := "f617e97bbe76345a2dd8bb446d11d14d4100edecdf27bd83e969e8379db81b1a", func := "loop.example/fairbooks/laws.FnExactFitsOk", spec := "fnExactFitsOk", unfollowed := true, recurses := true, apart := false, narrowed := true }
def FnExactFitsOkUptoSaid : Prop := fnExactFitsOkUptoRow.holds Try.pinned (OpenSpec.upto fnExactFitsOkSpec)

/-- 'laws.FnExactFirstMeasure', WHERE WHAT IT READS IS OF BULK AT MOST 1048576: true; the input reads as it did. -/
def fnExactFirstMeasureUptoRow : OpenClaim := { program := "ytfdgelikmhaagaa", sum := "f617e97bbe76345a2dd8bb446d11d14d4100edecdf27bd83e969e8379db81b1a", func := "loop.example/fairbooks/laws.FnExactFirstMeasure", spec := "fnExactFirstMeasure", unfollowed := true, recurses := true, apart := false, narrowed := true }
def FnExactFirstMeasureUptoSaid : Prop := fnExactFirstMeasureUptoRow.holds Try.pinned (OpenSpec.upto fnExactFirstMeasureSpec)

/-- 'laws.FnExactFairOk', WHERE WHAT IT READS IS OF BULK AT MOST 1048576: true; the input reads as it did. -/
def fnExactFairOkUptoRow : OpenClaim := { program := "ytfdgelikmhaagaa", sum := "f617e97bbe76345a2dd8bb446d11d14d4100edecdf27bd83e969e8379db81b1a", func := "loop.example/fairbooks/laws.FnExactFairOk", spec := "fnExactFairOk", unfollowed := true, recurses := true, apart := false, narrowed := true }
def FnExactFairOkUptoSaid : Prop := fnExactFairOkUptoRow.holds Try.pinned (OpenSpec.upto fnExactFairOkSpec)

/-- 'laws.FnExactCountMeasures', WHERE WHAT IT READS IS OF BULK AT MOST 1048576: true; the input reads as it did. -/
def fnExactCountMeasuresUptoRow : OpenClaim := { program := "ytfdgelikmhaagaa", sum := "f617e97bbe76345a2dd8bb446d11d14d4100edecdf27bd83e969e8379db81b1a", func := "loop.example/fairbooks/laws.FnExactCountMeasures", spec := "fnExactCountMeasures", unfollowed := true, recurses := true, apart := false, narrowed := true }
def FnExactCountMeasuresUptoSaid : Prop := fnExactCountMeasuresUptoRow.holds Try.pinned (OpenSpec.upto fnExactCountMeasuresSpec)

/-- 'laws.FnExactMixedMeasure', WHERE WHAT IT READS IS OF BULK AT MOST 1048576: true; the input reads as it did. -/
def fnExactMixedMeasureUptoRow : OpenClaim := { program := "ytfdgelikmhaagaa", sum := "f617e97bbe76345a2dd8bb446d11d14d4100edecdf27bd83e969e8379db81b1a", func := "loop.example/fairbooks/laws.FnExactMixedMeasure", spec := "fnExactMixedMeasure", apart := false, narrowed := true }
def FnExactMixedMeasureUptoSaid : Prop := fnExactMixedMeasureUptoRow.holds Try.pinned (OpenSpec.upto fnExactMixedMeasureSpec)

end Rows
end Go.Proofs.Ytfdgelikmhaagaa
