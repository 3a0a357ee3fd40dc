/-
  No cell of these rows narrows 'for every input' (looked for: loops, veiled, ifaces, maps, wideKeys, modest, calm, conditions, laid).
  DERIVED. THE GIVEN ROWS OF THIS SEAT. 14 by the template 'for every input the law returns true; each argument reads behind the call as it read before'; 0 by the template 'total and deterministic' (their statements: YtpkecmcgpiimkaaTotals.lean).
  GIVEN WITH THE SEED: the statements are not yours to turn. If you find one false, say at which input.
  Laid BY PROGRAM, IN A SANDBOX (cutbox-rows.mjs): the forced cells as the released guide's own fill.sh prints them over the translation 93f87f00e12539d3… (all of the seat's roots in one cut). By AI agents, Wed Nov 11 2026. No macro, syntax, notation, axiom, sorry.
-/
import Derived.Test.YtpkecmcgpiimkaaChecked
import GoSem.Claim
import GoSem.ClaimJoined
import GoSem.ClaimMapViews
import Derived.JoinedTies
import Derived.KernelRfl
namespace Go.Proofs.Ytpkecmcgpiimkaa
/- THE CELL 'sum', in the pinned program and in every row, IS THE sha256 OF THE DUMP (.gsa) THAT YtpkecmcgpiimkaaProg.lean LOADS. Nothing in Lean hashes anything: it is a label: what it is worth is what the hold of that sum in a sandbox is worth. -/
noncomputable def Try.pinned : Pinned := { name := "ytpkecmcgpiimkaa", sum := "93f87f00e12539d3209b25bbf5610f134f7349f38541078bf533ccff44712b61", checked := Try.checked }
namespace Rows
def none {H : Type} : Left H := { results := [], args := [] }

/-- 'laws.FnGambleOk': WHATEVER THE INPUT: true; the input reads as it did. -/
def fnGambleOkSpec : ChangeSpec := { name := "fnGambleOk", fn := fun _ => fun
  | [d] => { results := [.lit (.bool true)], args := [d] }
  | _ => none }
def fnGambleOkRow : OpenClaim := { program := "ytpkecmcgpiimkaa", sum := "93f87f00e12539d3209b25bbf5610f134f7349f38541078bf533ccff44712b61", func := "loop.example/fairbooks/laws.FnGambleOk", spec := "fnGambleOk", apart := false }
def FnGambleOkSaid : Prop := fnGambleOkRow.holds Try.pinned (OpenSpec.ofChange fnGambleOkSpec)

/-- ITS FALSE NEIGHBOUR: 'it returns false'. Refute it at one input. -/
def fnGambleOkWrong : ChangeSpec := { name := "fnGambleOk", fn := fun _ => fun
  | [d] => { results := [.lit (.bool false)], args := [d] }
  | _ => none }
def FnGambleOkWrongFalsely : Prop := fnGambleOkRow.holds Try.pinned (OpenSpec.ofChange fnGambleOkWrong)

/-- 'laws.FnSumGamble': WHATEVER THE INPUT: true; the input reads as it did. -/
def fnSumGambleSpec : ChangeSpec := { name := "fnSumGamble", fn := fun _ => fun
  | [d] => { results := [.lit (.bool true)], args := [d] }
  | _ => none }
def fnSumGambleRow : OpenClaim := { program := "ytpkecmcgpiimkaa", sum := "93f87f00e12539d3209b25bbf5610f134f7349f38541078bf533ccff44712b61", func := "loop.example/fairbooks/laws.FnSumGamble", spec := "fnSumGamble", unfollowed := true, recurses := true, apart := false }
def FnSumGambleSaid : Prop := fnSumGambleRow.holds Try.pinned (OpenSpec.ofChange fnSumGambleSpec)

/-- ITS FALSE NEIGHBOUR: 'it returns false'. Refute it at one input. -/
def fnSumGambleWrong : ChangeSpec := { name := "fnSumGamble", fn := fun _ => fun
  | [d] => { results := [.lit (.bool false)], args := [d] }
  | _ => none }
def FnSumGambleWrongFalsely : Prop := fnSumGambleRow.holds Try.pinned (OpenSpec.ofChange fnSumGambleWrong)

/-- 'laws.FnTimesGamble': WHATEVER THE INPUT: true; the input reads as it did. -/
def fnTimesGambleSpec : ChangeSpec := { name := "fnTimesGamble", fn := fun _ => fun
  | [d] => { results := [.lit (.bool true)], args := [d] }
  | _ => none }
def fnTimesGambleRow : OpenClaim := { program := "ytpkecmcgpiimkaa", sum := "93f87f00e12539d3209b25bbf5610f134f7349f38541078bf533ccff44712b61", func := "loop.example/fairbooks/laws.FnTimesGamble", spec := "fnTimesGamble", unfollowed := true, recurses := true, apart := false }
def FnTimesGambleSaid : Prop := fnTimesGambleRow.holds Try.pinned (OpenSpec.ofChange fnTimesGambleSpec)

/-- ITS FALSE NEIGHBOUR: 'it returns false'. Refute it at one input. -/
def fnTimesGambleWrong : ChangeSpec := { name := "fnTimesGamble", fn := fun _ => fun
  | [d] => { results := [.lit (.bool false)], args := [d] }
  | _ => none }
def FnTimesGambleWrongFalsely : Prop := fnTimesGambleRow.holds Try.pinned (OpenSpec.ofChange fnTimesGambleWrong)

/-- 'laws.FnWorstOf': WHATEVER THE INPUT: true; the input reads as it did. -/
def fnWorstOfSpec : ChangeSpec := { name := "fnWorstOf", fn := fun _ => fun
  | [d] => { results := [.lit (.bool true)], args := [d] }
  | _ => none }
def fnWorstOfRow : OpenClaim := { program := "ytpkecmcgpiimkaa", sum := "93f87f00e12539d3209b25bbf5610f134f7349f38541078bf533ccff44712b61", func := "loop.example/fairbooks/laws.FnWorstOf", spec := "fnWorstOf", unfollowed := true, recurses := true, apart := false }
def FnWorstOfSaid : Prop := fnWorstOfRow.holds Try.pinned (OpenSpec.ofChange fnWorstOfSpec)

/-- ITS FALSE NEIGHBOUR: 'it returns false'. Refute it at one input. -/
def fnWorstOfWrong : ChangeSpec := { name := "fnWorstOf", fn := fun _ => fun
  | [d] => { results := [.lit (.bool false)], args := [d] }
  | _ => none }
def FnWorstOfWrongFalsely : Prop := fnWorstOfRow.holds Try.pinned (OpenSpec.ofChange fnWorstOfWrong)

/-- 'laws.FnBestOf': WHATEVER THE INPUT: true; the input reads as it did. -/
def fnBestOfSpec : ChangeSpec := { name := "fnBestOf", fn := fun _ => fun
  | [d] => { results := [.lit (.bool true)], args := [d] }
  | _ => none }
def fnBestOfRow : OpenClaim := { program := "ytpkecmcgpiimkaa", sum := "93f87f00e12539d3209b25bbf5610f134f7349f38541078bf533ccff44712b61", func := "loop.example/fairbooks/laws.FnBestOf", spec := "fnBestOf", unfollowed := true, recurses := true, apart := false }
def FnBestOfSaid : Prop := fnBestOfRow.holds Try.pinned (OpenSpec.ofChange fnBestOfSpec)

/-- ITS FALSE NEIGHBOUR: 'it returns false'. Refute it at one input. -/
def fnBestOfWrong : ChangeSpec := { name := "fnBestOf", fn := fun _ => fun
  | [d] => { results := [.lit (.bool false)], args := [d] }
  | _ => none }
def FnBestOfWrongFalsely : Prop := fnBestOfRow.holds Try.pinned (OpenSpec.ofChange fnBestOfWrong)

/-- 'laws.FnBetterOk': WHATEVER THE INPUT: true; the input reads as it did. -/
def fnBetterOkSpec : ChangeSpec := { name := "fnBetterOk", fn := fun _ => fun
  | [d1, d2] => { results := [.lit (.bool true)], args := [d1, d2] }
  | _ => none }
def fnBetterOkRow : OpenClaim := { program := "ytpkecmcgpiimkaa", sum := "93f87f00e12539d3209b25bbf5610f134f7349f38541078bf533ccff44712b61", func := "loop.example/fairbooks/laws.FnBetterOk", spec := "fnBetterOk", apart := false }
def FnBetterOkSaid : Prop := fnBetterOkRow.holds Try.pinned (OpenSpec.ofChange fnBetterOkSpec)

/-- ITS FALSE NEIGHBOUR: 'it returns false'. Refute it at one input. -/
def fnBetterOkWrong : ChangeSpec := { name := "fnBetterOk", fn := fun _ => fun
  | [d1, d2] => { results := [.lit (.bool false)], args := [d1, d2] }
  | _ => none }
def FnBetterOkWrongFalsely : Prop := fnBetterOkRow.holds Try.pinned (OpenSpec.ofChange fnBetterOkWrong)

/-- 'laws.FnLosesOk': WHATEVER THE INPUT: true; the input reads as it did. -/
def fnLosesOkSpec : ChangeSpec := { name := "fnLosesOk", fn := fun _ => fun
  | [d] => { results := [.lit (.bool true)], args := [d] }
  | _ => none }
def fnLosesOkRow : OpenClaim := { program := "ytpkecmcgpiimkaa", sum := "93f87f00e12539d3209b25bbf5610f134f7349f38541078bf533ccff44712b61", func := "loop.example/fairbooks/laws.FnLosesOk", spec := "fnLosesOk", unfollowed := true, recurses := true, apart := false }
def FnLosesOkSaid : Prop := fnLosesOkRow.holds Try.pinned (OpenSpec.ofChange fnLosesOkSpec)

/-- ITS FALSE NEIGHBOUR: 'it returns false'. Refute it at one input. -/
def fnLosesOkWrong : ChangeSpec := { name := "fnLosesOk", fn := fun _ => fun
  | [d] => { results := [.lit (.bool false)], args := [d] }
  | _ => none }
def FnLosesOkWrongFalsely : Prop := fnLosesOkRow.holds Try.pinned (OpenSpec.ofChange fnLosesOkWrong)

/-- 'laws.FnExactGambleOk': WHATEVER THE INPUT: true; the input reads as it did. -/
def fnExactGambleOkSpec : ChangeSpec := { name := "fnExactGambleOk", fn := fun _ => fun
  | [d] => { results := [.lit (.bool true)], args := [d] }
  | _ => none }
def fnExactGambleOkRow : OpenClaim := { program := "ytpkecmcgpiimkaa", sum := "93f87f00e12539d3209b25bbf5610f134f7349f38541078bf533ccff44712b61", func := "loop.example/fairbooks/laws.FnExactGambleOk", spec := "fnExactGambleOk", apart := false }
def FnExactGambleOkSaid : Prop := fnExactGambleOkRow.holds Try.pinned (OpenSpec.ofChange fnExactGambleOkSpec)

/-- ITS FALSE NEIGHBOUR: 'it returns false'. Refute it at one input. -/
def fnExactGambleOkWrong : ChangeSpec := { name := "fnExactGambleOk", fn := fun _ => fun
  | [d] => { results := [.lit (.bool false)], args := [d] }
  | _ => none }
def FnExactGambleOkWrongFalsely : Prop := fnExactGambleOkRow.holds Try.pinned (OpenSpec.ofChange fnExactGambleOkWrong)

/-- 'laws.FnExactSumGamble': WHATEVER THE INPUT: true; the input reads as it did. -/
def fnExactSumGambleSpec : ChangeSpec := { name := "fnExactSumGamble", fn := fun _ => fun
  | [d1, d2] => { results := [.lit (.bool true)], args := [d1, d2] }
  | _ => none }
def fnExactSumGambleRow : OpenClaim := { program := "ytpkecmcgpiimkaa", sum := "93f87f00e12539d3209b25bbf5610f134f7349f38541078bf533ccff44712b61", func := "loop.example/fairbooks/laws.FnExactSumGamble", spec := "fnExactSumGamble", apart := false }
def FnExactSumGambleSaid : Prop := fnExactSumGambleRow.holds Try.pinned (OpenSpec.ofChange fnExactSumGambleSpec)

/-- ITS FALSE NEIGHBOUR: 'it returns false'. Refute it at one input. -/
def fnExactSumGambleWrong : ChangeSpec := { name := "fnExactSumGamble", fn := fun _ => fun
  | [d1, d2] => { results := [.lit (.bool false)], args := [d1, d2] }
  | _ => none }
def FnExactSumGambleWrongFalsely : Prop := fnExactSumGambleRow.holds Try.pinned (OpenSpec.ofChange fnExactSumGambleWrong)

/-- 'laws.FnExactTimesGamble': WHATEVER THE INPUT: true; the input reads as it did. -/
def fnExactTimesGambleSpec : ChangeSpec := { name := "fnExactTimesGamble", fn := fun _ => fun
  | [d1, d2] => { results := [.lit (.bool true)], args := [d1, d2] }
  | _ => none }
def fnExactTimesGambleRow : OpenClaim := { program := "ytpkecmcgpiimkaa", sum := "93f87f00e12539d3209b25bbf5610f134f7349f38541078bf533ccff44712b61", func := "loop.example/fairbooks/laws.FnExactTimesGamble", spec := "fnExactTimesGamble", apart := false }
def FnExactTimesGambleSaid : Prop := fnExactTimesGambleRow.holds Try.pinned (OpenSpec.ofChange fnExactTimesGambleSpec)

/-- ITS FALSE NEIGHBOUR: 'it returns false'. Refute it at one input. -/
def fnExactTimesGambleWrong : ChangeSpec := { name := "fnExactTimesGamble", fn := fun _ => fun
  | [d1, d2] => { results := [.lit (.bool false)], args := [d1, d2] }
  | _ => none }
def FnExactTimesGambleWrongFalsely : Prop := fnExactTimesGambleRow.holds Try.pinned (OpenSpec.ofChange fnExactTimesGambleWrong)

/-- 'laws.FnExactWorstOf': WHATEVER THE INPUT: true; the input reads as it did. -/
def fnExactWorstOfSpec : ChangeSpec := { name := "fnExactWorstOf", fn := fun _ => fun
  | [d] => { results := [.lit (.bool true)], args := [d] }
  | _ => none }
def fnExactWorstOfRow : OpenClaim := { program := "ytpkecmcgpiimkaa", sum := "93f87f00e12539d3209b25bbf5610f134f7349f38541078bf533ccff44712b61", func := "loop.example/fairbooks/laws.FnExactWorstOf", spec := "fnExactWorstOf", unfollowed := true, recurses := true, apart := false }
def FnExactWorstOfSaid : Prop := fnExactWorstOfRow.holds Try.pinned (OpenSpec.ofChange fnExactWorstOfSpec)

/-- ITS FALSE NEIGHBOUR: 'it returns false'. Refute it at one input. -/
def fnExactWorstOfWrong : ChangeSpec := { name := "fnExactWorstOf", fn := fun _ => fun
  | [d] => { results := [.lit (.bool false)], args := [d] }
  | _ => none }
def FnExactWorstOfWrongFalsely : Prop := fnExactWorstOfRow.holds Try.pinned (OpenSpec.ofChange fnExactWorstOfWrong)

/-- 'laws.FnExactBestOf': WHATEVER THE INPUT: true; the input reads as it did. -/
def fnExactBestOfSpec : ChangeSpec := { name := "fnExactBestOf", fn := fun _ => fun
  | [d] => { results := [.lit (.bool true)], args := [d] }
  | _ => none }
def fnExactBestOfRow : OpenClaim := { program := "ytpkecmcgpiimkaa", sum := "93f87f00e12539d3209b25bbf5610f134f7349f38541078bf533ccff44712b61", func := "loop.example/fairbooks/laws.FnExactBestOf", spec := "fnExactBestOf", unfollowed := true, recurses := true, apart := false }
def FnExactBestOfSaid : Prop := fnExactBestOfRow.holds Try.pinned (OpenSpec.ofChange fnExactBestOfSpec)

/-- ITS FALSE NEIGHBOUR: 'it returns false'. Refute it at one input. -/
def fnExactBestOfWrong : ChangeSpec := { name := "fnExactBestOf", fn := fun _ => fun
  | [d] => { results := [.lit (.bool false)], args := [d] }
  | _ => none }
def FnExactBestOfWrongFalsely : Prop := fnExactBestOfRow.holds Try.pinned (OpenSpec.ofChange fnExactBestOfWrong)

/-- 'laws.FnExactBetterOk': WHATEVER THE INPUT: true; the input reads as it did. -/
def fnExactBetterOkSpec : ChangeSpec := { name := "fnExactBetterOk", fn := fun _ => fun
  | [d1, d2] => { results := [.lit (.bool true)], args := [d1, d2] }
  | _ => none }
def fnExactBetterOkRow : OpenClaim := { program := "ytpkecmcgpiimkaa", sum := "93f87f00e12539d3209b25bbf5610f134f7349f38541078bf533ccff44712b61", func := "loop.example/fairbooks/laws.FnExactBetterOk", spec := "fnExactBetterOk", apart := false }
def FnExactBetterOkSaid : Prop := fnExactBetterOkRow.holds Try.pinned (OpenSpec.ofChange fnExactBetterOkSpec)

/-- ITS FALSE NEIGHBOUR: 'it returns false'. Refute it at one input. -/
def fnExactBetterOkWrong : ChangeSpec := { name := "fnExactBetterOk", fn := fun _ => fun
  | [d1, d2] => { results := [.lit (.bool false)], args := [d1, d2] }
  | _ => none }
def FnExactBetterOkWrongFalsely : Prop := fnExactBetterOkRow.holds Try.pinned (OpenSpec.ofChange fnExactBetterOkWrong)

/-- 'laws.FnExactLosesOk': WHATEVER THE INPUT: true; the input reads as it did. -/
def fnExactLosesOkSpec : ChangeSpec := { name := "fnExactLosesOk", fn := fun _ => fun
  | [d] => { results := [.lit (.bool true)], args := [d] }
  | _ => none }
def fnExactLosesOkRow : OpenClaim := { program := "ytpkecmcgpiimkaa", sum := "93f87f00e12539d3209b25bbf5610f134f7349f38541078bf533ccff44712b61", func := "loop.example/fairbooks/laws.FnExactLosesOk", spec := "fnExactLosesOk", unfollowed := true, recurses := true, apart := false }
def FnExactLosesOkSaid : Prop := fnExactLosesOkRow.holds Try.pinned (OpenSpec.ofChange fnExactLosesOkSpec)

/-- ITS FALSE NEIGHBOUR: 'it returns false'. Refute it at one input. -/
def fnExactLosesOkWrong : ChangeSpec := { name := "fnExactLosesOk", fn := fun _ => fun
  | [d] => { results := [.lit (.bool false)], args := [d] }
  | _ => none }
def FnExactLosesOkWrongFalsely : Prop := fnExactLosesOkRow.holds Try.pinned (OpenSpec.ofChange fnExactLosesOkWrong)

/- THE SECOND FORM. 'bulk': how many values and letters a reading holds, each counted each time it is reached (what is shared counts as often as it is met; a slice's spare places count too). A statement '..UptoSaid' is the law's where the arguments, and the package variables that the reading takes, are together of bulk at most 1048576: NARROWER than '..Said'. Prove '..Said' where nothing that the law and all that it calls make is longer than what came in: it says more and counts as full. Else prove '..UptoSaid'. A law counts once. -/
mutual
def uptoBulk {H : Type} : DataW H → Nat
  | .lit (.string bytes) => bytes.length + 1
  | .lit _ => 1
  | .nil => 1
  | .ptr d => uptoBulk d + 1
  | .slice elems spare => uptoBulkAll elems + uptoBulkAll spare + 1
  | .agg parts => uptoBulkAll parts + 1
  | .iface _ d => uptoBulk d + 1
  | .map entries => uptoBulkEntries entries + 1
  | .held _ => 1
def uptoBulkAll {H : Type} : List (DataW H) → Nat
  | [] => 0
  | d :: r => uptoBulk d + uptoBulkAll r
def uptoBulkEntries {H : Type} : List (Lit × DataW H) → Nat
  | [] => 0
  | x :: r => uptoBulkEntry x + uptoBulkEntries r
def uptoBulkEntry {H : Type} : Lit × DataW H → Nat
  | (.string bytes, d) => bytes.length + uptoBulk d + 1
  | (_, d) => uptoBulk d + 1
 end
def uptoSmall : (H : Type) → List (DataW H) → Bool := fun _ ds => decide (uptoBulkAll ds ≤ 1048576)
def OpenSpec.upto (s : _root_.Go.ChangeSpec) : _root_.Go.OpenSpec := { _root_.Go.OpenSpec.ofChange s with cond := some uptoSmall }

/-- 'laws.FnGambleOk', WHERE WHAT IT READS IS OF BULK AT MOST 1048576: true; the input reads as it did. -/
def fnGambleOkUptoRow : OpenClaim := { program := "ytpkecmcgpiimkaa", sum := "93f87f00e12539d3209b25bbf5610f134f7349f38541078bf533ccff44712b61", func := "loop.example/fairbooks/laws.FnGambleOk", spec := "fnGambleOk", apart := false, narrowed := true }
def FnGambleOkUptoSaid : Prop := fnGambleOkUptoRow.holds Try.pinned (OpenSpec.upto fnGambleOkSpec)

/-- 'laws.FnSumGamble', WHERE WHAT IT READS IS OF BULK AT MOST 1048576: true; the input reads as it did. -/
def fnSumGambleUptoRow : OpenClaim := { program := "ytpkecmcgpiimkaa", sum := "93f87f00e12539d3209b25bbf5610f134f7349f38541078bf533ccff44712b61", func := "loop.example/fairbooks/laws.FnSumGamble", spec := "fnSumGamble", unfollowed := true, recurses := true, apart := false, narrowed := true }
def FnSumGambleUptoSaid : Prop := fnSumGambleUptoRow.holds Try.pinned (OpenSpec.upto fnSumGambleSpec)

/-- 'laws.FnTimesGamble', WHERE WHAT IT READS IS OF BULK AT MOST 1048576: true; the input reads as it did. -/
def fnTimesGambleUptoRow : OpenClaim := { program := "ytpkecmcgpiimkaa", sum := "93f87f00e12539d3209b25bbf5610f134f7349f38541078bf533ccff44712b61", func := "loop.example/fairbooks/laws.FnTimesGamble", spec := "fnTimesGamble", unfollowed := true, recurses := true, apart := false, narrowed := true }
def FnTimesGambleUptoSaid : Prop := fnTimesGambleUptoRow.holds Try.pinned (OpenSpec.upto fnTimesGambleSpec)

/-- 'laws.FnWorstOf', WHERE WHAT IT READS IS OF BULK AT MOST 1048576: true; the input reads as it did. -/
def fnWorstOfUptoRow : OpenClaim := { program := "ytpkecmcgpiimkaa", sum := "93f87f00e12539d3209b25bbf5610f134f7349f38541078bf533ccff44712b61", func := "loop.example/fairbooks/laws.FnWorstOf", spec := "fnWorstOf", unfollowed := true, recurses := true, apart := false, narrowed := true }
def FnWorstOfUptoSaid : Prop := fnWorstOfUptoRow.holds Try.pinned (OpenSpec.upto fnWorstOfSpec)

/-- 'laws.FnBestOf', WHERE WHAT IT READS IS OF BULK AT MOST 1048576: true; the input reads as it did. -/
def fnBestOfUptoRow : OpenClaim := { program := "ytpkecmcgpiimkaa", sum := "93f87f00e12539d3209b25bbf5610f134f7349f38541078bf533ccff44712b61", func := "loop.example/fairbooks/laws.FnBestOf", spec := "fnBestOf", unfollowed := true, recurses := true, apart := false, narrowed := true }
def FnBestOfUptoSaid : Prop := fnBestOfUptoRow.holds Try.pinned (OpenSpec.upto fnBestOfSpec)

/-- 'laws.FnBetterOk', WHERE WHAT IT READS IS OF BULK AT MOST 1048576: true; the input reads as it did. -/
def fnBetterOkUptoRow : OpenClaim := { program := "ytpkecmcgpiimkaa", sum := "93f87f00e12539d3209b25bbf5610f134f7349f38541078bf533ccff44712b61", func := "loop.example/fairbooks/laws.FnBetterOk", spec := "fnBetterOk", apart := false, narrowed := true }
def FnBetterOkUptoSaid : Prop := fnBetterOkUptoRow.holds Try.pinned (OpenSpec.upto fnBetterOkSpec)

/-- 'laws.FnLosesOk', WHERE WHAT IT READS IS OF BULK AT MOST 1048576: true; the input reads as it did. -/
def fnLosesOkUptoRow : OpenClaim := { program := "ytpkecmcgpiimkaa", sum := "93f87f00e12539d3209b25bbf5610f134f7349f38541078bf533ccff44712b61", func := "loop.example/fairbooks/laws.FnLosesOk", spec := "fnLosesOk", unfollowed := true, recurses := true, apart := false, narrowed := true }
def FnLosesOkUptoSaid : Prop := fnLosesOkUptoRow.holds Try.pinned (OpenSpec.upto fnLosesOkSpec)

/-- 'laws.FnExactGambleOk', WHERE WHAT IT READS IS OF BULK AT MOST 1048576: true; the input reads as it did. -/
def fnExactGambleOkUptoRow : OpenClaim := { program := "ytpkecmcgpiimkaa", sum := "93f87f00e12539d3209b25bbf5610f134f7349f38541078bf533ccff44712b61", func := "loop.example/fairbooks/laws.FnExactGambleOk", spec := "fnExactGambleOk", apart := false, narrowed := true }
def FnExactGambleOkUptoSaid : Prop := fnExactGambleOkUptoRow.holds Try.pinned (OpenSpec.upto fnExactGambleOkSpec)

/-- 'laws.FnExactSumGamble', WHERE WHAT IT READS IS OF BULK AT MOST 1048576: true; the input reads as it did. -/
def fnExactSumGambleUptoRow : OpenClaim := { program := "ytpkecmcgpiimkaa", sum := "93f87f00e12539d3209b25bbf5610f134f7349f38541078bf533ccff44712b61", func := "loop.example/fairbooks/laws.FnExactSumGamble", spec := "fnExactSumGamble", apart := false, narrowed := true }
def FnExactSumGambleUptoSaid : Prop := fnExactSumGambleUptoRow.holds Try.pinned (OpenSpec.upto fnExactSumGambleSpec)

/-- 'laws.FnExactTimesGamble', WHERE WHAT IT READS IS OF BULK AT MOST 1048576: true; the input reads as it did. -/
def fnExactTimesGambleUptoRow : OpenClaim := { program := "ytpkecmcgpiimkaa", sum := "93f87f00e12539d3209b25bbf5610f134f7349f38541078bf533ccff44712b61", func := "loop.example/fairbooks/laws.FnExactTimesGamble", spec := "fnExactTimesGamble", apart := false, narrowed := true }
def FnExactTimesGambleUptoSaid : Prop := fnExactTimesGambleUptoRow.holds Try.pinned (OpenSpec.upto fnExactTimesGambleSpec)

/-- 'laws.FnExactWorstOf', WHERE WHAT IT READS IS OF BULK AT MOST 1048576: true; the input reads as it did. -/
def fnExactWorstOfUptoRow : OpenClaim := { program := "ytpkecmcgpiimkaa", sum := "93f87f00e12539d3209b25bbf5610f134f7349f38541078bf533ccff44712b61", func := "loop.example/fairbooks/laws.FnExactWorstOf", spec := "fnExactWorstOf", unfollowed := true, recurses := true, apart := false, narrowed := true }
def FnExactWorstOfUptoSaid : Prop := fnExactWorstOfUptoRow.holds Try.pinned (OpenSpec.upto fnExactWorstOfSpec)

/-- 'laws.FnExactBestOf', WHERE WHAT IT READS IS OF BULK AT MOST 1048576: true; the input reads as it did. -/
def fnExactBestOfUptoRow : OpenClaim := { program := "ytpkecmcgpiimkaa", sum := "93f87f00e12539d3209b25bbf5610f134f7349f38541078bf533ccff44712b61", func := "loop.example/fairbooks/laws.FnExactBestOf", spec := "fnExactBestOf", unfollowed := true, recurses := true, apart := false, narrowed := true }
def FnExactBestOfUptoSaid : Prop := fnExactBestOfUptoRow.holds Try.pinned (OpenSpec.upto fnExactBestOfSpec)

/-- 'laws.FnExactBetterOk', WHERE WHAT IT READS IS OF BULK AT MOST 1048576: true; the input reads as it did. -/
def fnExactBetterOkUptoRow : OpenClaim := { program := "ytpkecmcgpiimkaa", sum := "93f87f00e12539d3209b25bbf5610f134f7349f38541078bf533ccff44712b61", func := "loop.example/fairbooks/laws.FnExactBetterOk", spec := "fnExactBetterOk", apart := false, narrowed := true }
def FnExactBetterOkUptoSaid : Prop := fnExactBetterOkUptoRow.holds Try.pinned (OpenSpec.upto fnExactBetterOkSpec)

/-- 'laws.FnExactLosesOk', WHERE WHAT IT READS IS OF BULK AT MOST 1048576: true; the input reads as it did. -/
def fnExactLosesOkUptoRow : OpenClaim := { program := "ytpkecmcgpiimkaa", sum := "93f87f00e12539d3209b25bbf5610f134f7349f38541078bf533ccff44712b61", func := "loop.example/fairbooks/laws.FnExactLosesOk", spec := "fnExactLosesOk", unfollowed := true, recurses := true, apart := false, narrowed := true }
def FnExactLosesOkUptoSaid : Prop := fnExactLosesOkUptoRow.holds Try.pinned (OpenSpec.upto fnExactLosesOkSpec)

end Rows
end Go.Proofs.Ytpkecmcgpiimkaa
