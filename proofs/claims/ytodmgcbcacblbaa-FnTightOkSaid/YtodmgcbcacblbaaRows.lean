/-
  No cell of these rows narrows 'for every input' (looked for: loops, veiled, ifaces, maps, wideKeys, modest, calm, conditions, laid).
  DERIVED. THE GIVEN ROWS OF THIS SEAT. 14 by the template 'for every input the law returns true; each argument reads behind the call as it read before'; 0 by the template 'total and deterministic' (their statements: YtodmgcbcacblbaaTotals.lean).
  GIVEN WITH THE SEED: the statements are not yours to turn. If you find one false, say at which input.
  Laid BY PROGRAM, IN A SANDBOX (cutbox-rows.mjs): the forced cells as the released guide's own fill.sh prints them over the translation e5ccd793c7b18fe7… (all of the seat's roots in one cut). By AI agents, Wed Nov 11 2026. No macro, syntax, notation, axiom, sorry.
-/
import Derived.Test.YtodmgcbcacblbaaChecked
import GoSem.Claim
import GoSem.ClaimJoined
import GoSem.ClaimMapViews
import Derived.JoinedTies
import Derived.KernelRfl
namespace Go.Proofs.Ytodmgcbcacblbaa
/- THE CELL 'sum', in the pinned program and in every row, IS THE sha256 OF THE DUMP (.gsa) THAT YtodmgcbcacblbaaProg.lean LOADS. Nothing in Lean hashes anything: it is a label: what it is worth is what the hold of that sum in a sandbox is worth. -/
noncomputable def Try.pinned : Pinned := { name := "ytodmgcbcacblbaa", sum := "e5ccd793c7b18fe7a73d49e5a83479645389a19641f36a300f4d229ef637a38d", checked := Try.checked }
namespace Rows
def none {H : Type} : Left H := { results := [], args := [] }

/-- 'laws.FnBidsOk': WHATEVER THE INPUT: true; the input reads as it did. -/
def fnBidsOkSpec : ChangeSpec := { name := "fnBidsOk", fn := fun _ => fun
  | [d] => { results := [.lit (.bool true)], args := [d] }
  | _ => none }
def fnBidsOkRow : OpenClaim := { program := "ytodmgcbcacblbaa", sum := "e5ccd793c7b18fe7a73d49e5a83479645389a19641f36a300f4d229ef637a38d", func := "loop.example/fairbooks/laws.FnBidsOk", spec := "fnBidsOk", unfollowed := true, recurses := true, apart := false }
def FnBidsOkSaid : Prop := fnBidsOkRow.holds Try.pinned (OpenSpec.ofChange fnBidsOkSpec)

/-- ITS FALSE NEIGHBOUR: 'it returns false'. Refute it at one input. -/
def fnBidsOkWrong : ChangeSpec := { name := "fnBidsOk", fn := fun _ => fun
  | [d] => { results := [.lit (.bool false)], args := [d] }
  | _ => none }
def FnBidsOkWrongFalsely : Prop := fnBidsOkRow.holds Try.pinned (OpenSpec.ofChange fnBidsOkWrong)

/-- 'laws.FnFitsSides': WHATEVER THE INPUT: true; the input reads as it did. -/
def fnFitsSidesSpec : ChangeSpec := { name := "fnFitsSides", fn := fun _ => fun
  | [d] => { results := [.lit (.bool true)], args := [d] }
  | _ => none }
def fnFitsSidesRow : OpenClaim := { program := "ytodmgcbcacblbaa", sum := "e5ccd793c7b18fe7a73d49e5a83479645389a19641f36a300f4d229ef637a38d", func := "loop.example/fairbooks/laws.FnFitsSides", spec := "fnFitsSides", unfollowed := true, recurses := true, apart := false }
def FnFitsSidesSaid : Prop := fnFitsSidesRow.holds Try.pinned (OpenSpec.ofChange fnFitsSidesSpec)

/-- ITS FALSE NEIGHBOUR: 'it returns false'. Refute it at one input. -/
def fnFitsSidesWrong : ChangeSpec := { name := "fnFitsSides", fn := fun _ => fun
  | [d] => { results := [.lit (.bool false)], args := [d] }
  | _ => none }
def FnFitsSidesWrongFalsely : Prop := fnFitsSidesRow.holds Try.pinned (OpenSpec.ofChange fnFitsSidesWrong)

/-- 'laws.FnSidesFair': WHATEVER THE INPUT: true; the input reads as it did. -/
def fnSidesFairSpec : ChangeSpec := { name := "fnSidesFair", fn := fun _ => fun
  | [d] => { results := [.lit (.bool true)], args := [d] }
  | _ => none }
def fnSidesFairRow : OpenClaim := { program := "ytodmgcbcacblbaa", sum := "e5ccd793c7b18fe7a73d49e5a83479645389a19641f36a300f4d229ef637a38d", func := "loop.example/fairbooks/laws.FnSidesFair", spec := "fnSidesFair", unfollowed := true, recurses := true, apart := false }
def FnSidesFairSaid : Prop := fnSidesFairRow.holds Try.pinned (OpenSpec.ofChange fnSidesFairSpec)

/-- ITS FALSE NEIGHBOUR: 'it returns false'. Refute it at one input. -/
def fnSidesFairWrong : ChangeSpec := { name := "fnSidesFair", fn := fun _ => fun
  | [d] => { results := [.lit (.bool false)], args := [d] }
  | _ => none }
def FnSidesFairWrongFalsely : Prop := fnSidesFairRow.holds Try.pinned (OpenSpec.ofChange fnSidesFairWrong)

/-- 'laws.FnTakerGain': WHATEVER THE INPUT: true; the input reads as it did. -/
def fnTakerGainSpec : ChangeSpec := { name := "fnTakerGain", fn := fun _ => fun
  | [d] => { results := [.lit (.bool true)], args := [d] }
  | _ => none }
def fnTakerGainRow : OpenClaim := { program := "ytodmgcbcacblbaa", sum := "e5ccd793c7b18fe7a73d49e5a83479645389a19641f36a300f4d229ef637a38d", func := "loop.example/fairbooks/laws.FnTakerGain", spec := "fnTakerGain", unfollowed := true, recurses := true, apart := false }
def FnTakerGainSaid : Prop := fnTakerGainRow.holds Try.pinned (OpenSpec.ofChange fnTakerGainSpec)

/-- ITS FALSE NEIGHBOUR: 'it returns false'. Refute it at one input. -/
def fnTakerGainWrong : ChangeSpec := { name := "fnTakerGain", fn := fun _ => fun
  | [d] => { results := [.lit (.bool false)], args := [d] }
  | _ => none }
def FnTakerGainWrongFalsely : Prop := fnTakerGainRow.holds Try.pinned (OpenSpec.ofChange fnTakerGainWrong)

/-- 'laws.FnWinningStakes': WHATEVER THE INPUT: true; the input reads as it did. -/
def fnWinningStakesSpec : ChangeSpec := { name := "fnWinningStakes", fn := fun _ => fun
  | [d] => { results := [.lit (.bool true)], args := [d] }
  | _ => none }
def fnWinningStakesRow : OpenClaim := { program := "ytodmgcbcacblbaa", sum := "e5ccd793c7b18fe7a73d49e5a83479645389a19641f36a300f4d229ef637a38d", func := "loop.example/fairbooks/laws.FnWinningStakes", spec := "fnWinningStakes", unfollowed := true, recurses := true, apart := false }
def FnWinningStakesSaid : Prop := fnWinningStakesRow.holds Try.pinned (OpenSpec.ofChange fnWinningStakesSpec)

/-- ITS FALSE NEIGHBOUR: 'it returns false'. Refute it at one input. -/
def fnWinningStakesWrong : ChangeSpec := { name := "fnWinningStakes", fn := fun _ => fun
  | [d] => { results := [.lit (.bool false)], args := [d] }
  | _ => none }
def FnWinningStakesWrongFalsely : Prop := fnWinningStakesRow.holds Try.pinned (OpenSpec.ofChange fnWinningStakesWrong)

/-- 'laws.FnSidesOn': WHATEVER THE INPUT: true; the input reads as it did. -/
def fnSidesOnSpec : ChangeSpec := { name := "fnSidesOn", fn := fun _ => fun
  | [d] => { results := [.lit (.bool true)], args := [d] }
  | _ => none }
def fnSidesOnRow : OpenClaim := { program := "ytodmgcbcacblbaa", sum := "e5ccd793c7b18fe7a73d49e5a83479645389a19641f36a300f4d229ef637a38d", func := "loop.example/fairbooks/laws.FnSidesOn", spec := "fnSidesOn", unfollowed := true, recurses := true, apart := false }
def FnSidesOnSaid : Prop := fnSidesOnRow.holds Try.pinned (OpenSpec.ofChange fnSidesOnSpec)

/-- ITS FALSE NEIGHBOUR: 'it returns false'. Refute it at one input. -/
def fnSidesOnWrong : ChangeSpec := { name := "fnSidesOn", fn := fun _ => fun
  | [d] => { results := [.lit (.bool false)], args := [d] }
  | _ => none }
def FnSidesOnWrongFalsely : Prop := fnSidesOnRow.holds Try.pinned (OpenSpec.ofChange fnSidesOnWrong)

/-- 'laws.FnTightOk': WHATEVER THE INPUT: true; the input reads as it did. -/
def fnTightOkSpec : ChangeSpec := { name := "fnTightOk", fn := fun _ => fun
  | [d] => { results := [.lit (.bool true)], args := [d] }
  | _ => none }
def fnTightOkRow : OpenClaim := { program := "ytodmgcbcacblbaa", sum := "e5ccd793c7b18fe7a73d49e5a83479645389a19641f36a300f4d229ef637a38d", func := "loop.example/fairbooks/laws.FnTightOk", spec := "fnTightOk", unfollowed := true, recurses := true, apart := false }
def FnTightOkSaid : Prop := fnTightOkRow.holds Try.pinned (OpenSpec.ofChange fnTightOkSpec)

/-- ITS FALSE NEIGHBOUR: 'it returns false'. Refute it at one input. -/
def fnTightOkWrong : ChangeSpec := { name := "fnTightOk", fn := fun _ => fun
  | [d] => { results := [.lit (.bool false)], args := [d] }
  | _ => none }
def FnTightOkWrongFalsely : Prop := fnTightOkRow.holds Try.pinned (OpenSpec.ofChange fnTightOkWrong)

/-- 'laws.FnExactBidsOk': WHATEVER THE INPUT: true; the input reads as it did. -/
def fnExactBidsOkSpec : ChangeSpec := { name := "fnExactBidsOk", fn := fun _ => fun
  | [d1, d2] => { results := [.lit (.bool true)], args := [d1, d2] }
  | _ => none }
def fnExactBidsOkRow : OpenClaim := { program := "ytodmgcbcacblbaa", sum := "e5ccd793c7b18fe7a73d49e5a83479645389a19641f36a300f4d229ef637a38d", func := "loop.example/fairbooks/laws.FnExactBidsOk", spec := "fnExactBidsOk", unfollowed := true, recurses := true, apart := false }
def FnExactBidsOkSaid : Prop := fnExactBidsOkRow.holds Try.pinned (OpenSpec.ofChange fnExactBidsOkSpec)

/-- ITS FALSE NEIGHBOUR: 'it returns false'. Refute it at one input. -/
def fnExactBidsOkWrong : ChangeSpec := { name := "fnExactBidsOk", fn := fun _ => fun
  | [d1, d2] => { results := [.lit (.bool false)], args := [d1, d2] }
  | _ => none }
def FnExactBidsOkWrongFalsely : Prop := fnExactBidsOkRow.holds Try.pinned (OpenSpec.ofChange fnExactBidsOkWrong)

/-- 'laws.FnExactFitsSides': WHATEVER THE INPUT: true; the input reads as it did. -/
def fnExactFitsSidesSpec : ChangeSpec := { name := "fnExactFitsSides", fn := fun _ => fun
  | [d1, d2] => { results := [.lit (.bool true)], args := [d1, d2] }
  | _ => none }
def fnExactFitsSidesRow : OpenClaim := { program := "ytodmgcbcacblbaa", sum := "e5ccd793c7b18fe7a73d49e5a83479645389a19641f36a300f4d229ef637a38d", func := "loop.example/fairbooks/laws.FnExactFitsSides", spec := "fnExactFitsSides", unfollowed := true, recurses := true, apart := false }
def FnExactFitsSidesSaid : Prop := fnExactFitsSidesRow.holds Try.pinned (OpenSpec.ofChange fnExactFitsSidesSpec)

/-- ITS FALSE NEIGHBOUR: 'it returns false'. Refute it at one input. -/
def fnExactFitsSidesWrong : ChangeSpec := { name := "fnExactFitsSides", fn := fun _ => fun
  | [d1, d2] => { results := [.lit (.bool false)], args := [d1, d2] }
  | _ => none }
def FnExactFitsSidesWrongFalsely : Prop := fnExactFitsSidesRow.holds Try.pinned (OpenSpec.ofChange fnExactFitsSidesWrong)

/-- 'laws.FnExactSidesFair': WHATEVER THE INPUT: true; the input reads as it did. -/
def fnExactSidesFairSpec : ChangeSpec := { name := "fnExactSidesFair", fn := fun _ => fun
  | [d1, d2] => { results := [.lit (.bool true)], args := [d1, d2] }
  | _ => none }
def fnExactSidesFairRow : OpenClaim := { program := "ytodmgcbcacblbaa", sum := "e5ccd793c7b18fe7a73d49e5a83479645389a19641f36a300f4d229ef637a38d", func := "loop.example/fairbooks/laws.FnExactSidesFair", spec := "fnExactSidesFair", unfollowed := true, recurses := true, apart := false }
def FnExactSidesFairSaid : Prop := fnExactSidesFairRow.holds Try.pinned (OpenSpec.ofChange fnExactSidesFairSpec)

/-- ITS FALSE NEIGHBOUR: 'it returns false'. Refute it at one input. -/
def fnExactSidesFairWrong : ChangeSpec := { name := "fnExactSidesFair", fn := fun _ => fun
  | [d1, d2] => { results := [.lit (.bool false)], args := [d1, d2] }
  | _ => none }
def FnExactSidesFairWrongFalsely : Prop := fnExactSidesFairRow.holds Try.pinned (OpenSpec.ofChange fnExactSidesFairWrong)

/-- 'laws.FnExactTakerGain': WHATEVER THE INPUT: true; the input reads as it did. -/
def fnExactTakerGainSpec : ChangeSpec := { name := "fnExactTakerGain", fn := fun _ => fun
  | [d1, d2, d3] => { results := [.lit (.bool true)], args := [d1, d2, d3] }
  | _ => none }
def fnExactTakerGainRow : OpenClaim := { program := "ytodmgcbcacblbaa", sum := "e5ccd793c7b18fe7a73d49e5a83479645389a19641f36a300f4d229ef637a38d", func := "loop.example/fairbooks/laws.FnExactTakerGain", spec := "fnExactTakerGain", unfollowed := true, recurses := true, apart := false }
def FnExactTakerGainSaid : Prop := fnExactTakerGainRow.holds Try.pinned (OpenSpec.ofChange fnExactTakerGainSpec)

/-- ITS FALSE NEIGHBOUR: 'it returns false'. Refute it at one input. -/
def fnExactTakerGainWrong : ChangeSpec := { name := "fnExactTakerGain", fn := fun _ => fun
  | [d1, d2, d3] => { results := [.lit (.bool false)], args := [d1, d2, d3] }
  | _ => none }
def FnExactTakerGainWrongFalsely : Prop := fnExactTakerGainRow.holds Try.pinned (OpenSpec.ofChange fnExactTakerGainWrong)

/-- 'laws.FnExactWinningStakes': WHATEVER THE INPUT: true; the input reads as it did. -/
def fnExactWinningStakesSpec : ChangeSpec := { name := "fnExactWinningStakes", fn := fun _ => fun
  | [d1, d2] => { results := [.lit (.bool true)], args := [d1, d2] }
  | _ => none }
def fnExactWinningStakesRow : OpenClaim := { program := "ytodmgcbcacblbaa", sum := "e5ccd793c7b18fe7a73d49e5a83479645389a19641f36a300f4d229ef637a38d", func := "loop.example/fairbooks/laws.FnExactWinningStakes", spec := "fnExactWinningStakes", unfollowed := true, recurses := true, apart := false }
def FnExactWinningStakesSaid : Prop := fnExactWinningStakesRow.holds Try.pinned (OpenSpec.ofChange fnExactWinningStakesSpec)

/-- ITS FALSE NEIGHBOUR: 'it returns false'. Refute it at one input. -/
def fnExactWinningStakesWrong : ChangeSpec := { name := "fnExactWinningStakes", fn := fun _ => fun
  | [d1, d2] => { results := [.lit (.bool false)], args := [d1, d2] }
  | _ => none }
def FnExactWinningStakesWrongFalsely : Prop := fnExactWinningStakesRow.holds Try.pinned (OpenSpec.ofChange fnExactWinningStakesWrong)

/-- 'laws.FnExactSidesOn': WHATEVER THE INPUT: true; the input reads as it did. -/
def fnExactSidesOnSpec : ChangeSpec := { name := "fnExactSidesOn", fn := fun _ => fun
  | [d1, d2, d3] => { results := [.lit (.bool true)], args := [d1, d2, d3] }
  | _ => none }
def fnExactSidesOnRow : OpenClaim := { program := "ytodmgcbcacblbaa", sum := "e5ccd793c7b18fe7a73d49e5a83479645389a19641f36a300f4d229ef637a38d", func := "loop.example/fairbooks/laws.FnExactSidesOn", spec := "fnExactSidesOn", unfollowed := true, recurses := true, apart := false }
def FnExactSidesOnSaid : Prop := fnExactSidesOnRow.holds Try.pinned (OpenSpec.ofChange fnExactSidesOnSpec)

/-- ITS FALSE NEIGHBOUR: 'it returns false'. Refute it at one input. -/
def fnExactSidesOnWrong : ChangeSpec := { name := "fnExactSidesOn", fn := fun _ => fun
  | [d1, d2, d3] => { results := [.lit (.bool false)], args := [d1, d2, d3] }
  | _ => none }
def FnExactSidesOnWrongFalsely : Prop := fnExactSidesOnRow.holds Try.pinned (OpenSpec.ofChange fnExactSidesOnWrong)

/-- 'laws.FnExactTightOk': WHATEVER THE INPUT: true; the input reads as it did. -/
def fnExactTightOkSpec : ChangeSpec := { name := "fnExactTightOk", fn := fun _ => fun
  | [d1, d2] => { results := [.lit (.bool true)], args := [d1, d2] }
  | _ => none }
def fnExactTightOkRow : OpenClaim := { program := "ytodmgcbcacblbaa", sum := "e5ccd793c7b18fe7a73d49e5a83479645389a19641f36a300f4d229ef637a38d", func := "loop.example/fairbooks/laws.FnExactTightOk", spec := "fnExactTightOk", unfollowed := true, recurses := true, apart := false }
def FnExactTightOkSaid : Prop := fnExactTightOkRow.holds Try.pinned (OpenSpec.ofChange fnExactTightOkSpec)

/-- ITS FALSE NEIGHBOUR: 'it returns false'. Refute it at one input. -/
def fnExactTightOkWrong : ChangeSpec := { name := "fnExactTightOk", fn := fun _ => fun
  | [d1, d2] => { results := [.lit (.bool false)], args := [d1, d2] }
  | _ => none }
def FnExactTightOkWrongFalsely : Prop := fnExactTightOkRow.holds Try.pinned (OpenSpec.ofChange fnExactTightOkWrong)

/- THE SECOND FORM. 'bulk': how many values and letters a reading holds, each counted each time it is reached (what is shared counts as often as it is met; a slice's spare places count too). A statement '..UptoSaid' is the law's where the arguments, and the package variables that the reading takes, are together of bulk at most 1048576: NARROWER than '..Said'. Prove '..Said' where nothing that the law and all that it calls make is longer than what came in: it says more and counts as full. Else prove '..UptoSaid'. A law counts once. -/
mutual
def uptoBulk {H : Type} : DataW H → Nat
  | .lit (.string bytes) => bytes.length + 1
  | .lit _ => 1
  | .nil => 1
  | .ptr d => uptoBulk d + 1
  | .slice elems spare => uptoBulkAll elems + uptoBulkAll spare + 1
  | .agg parts => uptoBulkAll parts + 1
  | .iface _ d => uptoBulk d + 1
  | .map entries => uptoBulkEntries entries + 1
  | .held _ => 1
def uptoBulkAll {H : Type} : List (DataW H) → Nat
  | [] => 0
  | d :: r => uptoBulk d + uptoBulkAll r
def uptoBulkEntries {H : Type} : List (Lit × DataW H) → Nat
  | [] => 0
  | x :: r => uptoBulkEntry x + uptoBulkEntries r
def uptoBulkEntry {H : Type} : Lit × DataW H → Nat
  | (.string bytes, d) => bytes.length + uptoBulk d + 1
  | (_, d) => uptoBulk d + 1
 end
def uptoSmall : (H : Type) → List (DataW H) → Bool := fun _ ds => decide (uptoBulkAll ds ≤ 1048576)
def OpenSpec.upto (s : _root_.Go.ChangeSpec) : _root_.Go.OpenSpec := { _root_.Go.OpenSpec.ofChange s with cond := some uptoSmall }

/-- 'laws.FnBidsOk', WHERE WHAT IT READS IS OF BULK AT MOST 1048576: true; the input reads as it did. -/
def fnBidsOkUptoRow : OpenClaim := { program := "ytodmgcbcacblbaa", sum := "e5ccd793c7b18fe7a73d49e5a83479645389a19641f36a300f4d229ef637a38d", func := "loop.example/fairbooks/laws.FnBidsOk", spec := "fnBidsOk", unfollowed := true, recurses := true, apart := false, narrowed := true }
def FnBidsOkUptoSaid : Prop := fnBidsOkUptoRow.holds Try.pinned (OpenSpec.upto fnBidsOkSpec)

/-- 'laws.FnFitsSides', WHERE WHAT IT READS IS OF BULK AT MOST 1048576: true; the input reads as it did. -/
def fnFitsSidesUptoRow : OpenClaim := { program := "ytodmgcbcacblbaa", sum := "e5ccd793c7b18fe7a73d49e5a83479645389a19641f36a300f4d229ef637a38d", func := "loop.example/fairbooks/laws.FnFitsSides", spec := "fnFitsSides", unfollowed := true, recurses := true, apart := false, narrowed := true }
def FnFitsSidesUptoSaid : Prop := fnFitsSidesUptoRow.holds Try.pinned (OpenSpec.upto fnFitsSidesSpec)

/-- 'laws.FnSidesFair', WHERE WHAT IT READS IS OF BULK AT MOST 1048576: true; the input reads as it did. -/
def fnSidesFairUptoRow : OpenClaim := { program := "ytodmgcbcacblbaa", sum := "e5ccd793c7b18fe7a73d49e5a83479645389a19641f36a300f4d229ef637a38d", func := "loop.example/fairbooks/laws.FnSidesFair", spec := "fnSidesFair", unfollowed := true, recurses := true, apart := false, narrowed := true }
def FnSidesFairUptoSaid : Prop := fnSidesFairUptoRow.holds Try.pinned (OpenSpec.upto fnSidesFairSpec)

/-- 'laws.FnTakerGain', WHERE WHAT IT READS IS OF BULK AT MOST 1048576: true; the input reads as it did. -/
def fnTakerGainUptoRow : OpenClaim := { program := "ytodmgcbcacblbaa", sum := "e5ccd793c7b18fe7a73d49e5a83479645389a19641f36a300f4d229ef637a38d", func := "loop.example/fairbooks/laws.FnTakerGain", spec := "fnTakerGain", unfollowed := true, recurses := true, apart := false, narrowed := true }
def FnTakerGainUptoSaid : Prop := fnTakerGainUptoRow.holds Try.pinned (OpenSpec.upto fnTakerGainSpec)

/-- 'laws.FnWinningStakes', WHERE WHAT IT READS IS OF BULK AT MOST 1048576: true; the input reads as it did. -/
def fnWinningStakesUptoRow : OpenClaim := { program := "ytodmgcbcacblbaa", sum := "e5ccd793c7b18fe7a73d49e5a83479645389a19641f36a300f4d229ef637a38d", func := "loop.example/fairbooks/laws.FnWinningStakes", spec := "fnWinningStakes", unfollowed := true, recurses := true, apart := false, narrowed := true }
def FnWinningStakesUptoSaid : Prop := fnWinningStakesUptoRow.holds Try.pinned (OpenSpec.upto fnWinningStakesSpec)

/-- 'laws.FnSidesOn', WHERE WHAT IT READS IS OF BULK AT MOST 1048576: true; the input reads as it did. -/
def fnSidesOnUptoRow : OpenClaim := { program := "ytodmgcbcacblbaa", sum := "e5ccd793c7b18fe7a73d49e5a83479645389a19641f36a300f4d229ef637a38d", func := "loop.example/fairbooks/laws.FnSidesOn", spec := "fnSidesOn", unfollowed := true, recurses := true, apart := false, narrowed := true }
def FnSidesOnUptoSaid : Prop := fnSidesOnUptoRow.holds Try.pinned (OpenSpec.upto fnSidesOnSpec)

/-- 'laws.FnTightOk', WHERE WHAT IT READS IS OF BULK AT MOST 1048576: true; the input reads as it did. -/
def fnTightOkUptoRow : OpenClaim := { program := "ytodmgcbcacblbaa", sum := "e5ccd793c7b18fe7a73d49e5a83479645389a19641f36a300f4d229ef637a38d", func := "loop.example/fairbooks/laws.FnTightOk", spec := "fnTightOk", unfollowed := true, recurses := true, apart := false, narrowed := true }
def FnTightOkUptoSaid : Prop := fnTightOkUptoRow.holds Try.pinned (OpenSpec.upto fnTightOkSpec)

/-- 'laws.FnExactBidsOk', WHERE WHAT IT READS IS OF BULK AT MOST 1048576: true; the input reads as it did. -/
def fnExactBidsOkUptoRow : OpenClaim := { program := "ytodmgcbcacblbaa", sum := "e5ccd793c7b18fe7a73d49e5a83479645389a19641f36a300f4d229ef637a38d", func := "loop.example/fairbooks/laws.FnExactBidsOk", spec := "fnExactBidsOk", unfollowed := true, recurses := true, apart := false, narrowed := true }
def FnExactBidsOkUptoSaid : Prop := fnExactBidsOkUptoRow.holds Try.pinned (OpenSpec.upto fnExactBidsOkSpec)

/-- 'laws.FnExactFitsSides', WHERE WHAT IT READS IS OF BULK AT MOST 1048576: true; the input reads as it did. -/
def fnExactFitsSidesUptoRow : OpenClaim := { program := "ytodmgcbcacblbaa", sum := "e5ccd793c7b18fe7a73d49e5a83479645389a19641f36a300f4d229ef637a38d", func := "loop.example/fairbooks/laws.FnExactFitsSides", spec := "fnExactFitsSides", unfollowed := true, recurses := true, apart := false, narrowed := true }
def FnExactFitsSidesUptoSaid : Prop := fnExactFitsSidesUptoRow.holds Try.pinned (OpenSpec.upto fnExactFitsSidesSpec)

/-- 'laws.FnExactSidesFair', WHERE WHAT IT READS IS OF BULK AT MOST 1048576: true; the input reads as it did. -/
def fnExactSidesFairUptoRow : OpenClaim := { program := "ytodmgcbcacblbaa", sum := "e5ccd793c7b18fe7a73d49e5a83479645389a19641f36a300f4d229ef637a38d", func := "loop.example/fairbooks/laws.FnExactSidesFair", spec := "fnExactSidesFair", unfollowed := true, recurses := true, apart := false, narrowed := true }
def FnExactSidesFairUptoSaid : Prop := fnExactSidesFairUptoRow.holds Try.pinned (OpenSpec.upto fnExactSidesFairSpec)

/-- 'laws.FnExactTakerGain', WHERE WHAT IT READS IS OF BULK AT MOST 1048576: true; the input reads as it did. -/
def fnExactTakerGainUptoRow : OpenClaim := { program := "ytodmgcbcacblbaa", sum := "e5ccd793c7b18fe7a73d49e5a83479645389a19641f36a300f4d229ef637a38d", func := "loop.example/fairbooks/laws.FnExactTakerGain", spec := "fnExactTakerGain", unfollowed := true, recurses := true, apart := false, narrowed := true }
def FnExactTakerGainUptoSaid : Prop := fnExactTakerGainUptoRow.holds Try.pinned (OpenSpec.upto fnExactTakerGainSpec)

/-- 'laws.FnExactWinningStakes', WHERE WHAT IT READS IS OF BULK AT MOST 1048576: true; the input reads as it did. -/
def fnExactWinningStakesUptoRow : OpenClaim := { program := "ytodmgcbcacblbaa", sum := "e5ccd793c7b18fe7a73d49e5a83479645389a19641f36a300f4d229ef637a38d", func := "loop.example/fairbooks/laws.FnExactWinningStakes", spec := "fnExactWinningStakes", unfollowed := true, recurses := true, apart := false, narrowed := true }
def FnExactWinningStakesUptoSaid : Prop := fnExactWinningStakesUptoRow.holds Try.pinned (OpenSpec.upto fnExactWinningStakesSpec)

/-- 'laws.FnExactSidesOn', WHERE WHAT IT READS IS OF BULK AT MOST 1048576: true; the input reads as it did. -/
def fnExactSidesOnUptoRow : OpenClaim := { program := "ytodmgcbcacblbaa", sum := "e5ccd793c7b18fe7a73d49e5a83479645389a19641f36a300f4d229ef637a38d", func := "loop.example/fairbooks/laws.FnExactSidesOn", spec := "fnExactSidesOn", unfollowed := true, recurses := true, apart := false, narrowed := true }
def FnExactSidesOnUptoSaid : Prop := fnExactSidesOnUptoRow.holds Try.pinned (OpenSpec.upto fnExactSidesOnSpec)

/-- 'laws.FnExactTightOk', WHERE WHAT IT READS IS OF BULK AT MOST 1048576: true; the input reads as it did. -/
def fnExactTightOkUptoRow : OpenClaim := { program := "ytodmgcbcacblbaa", sum := "e5ccd793c7b18fe7a73d49e5a83479645389a19641f36a300f4d229ef637a38d", func := "loop.example/fairbooks/laws.FnExactTightOk", spec := "fnExactTightOk", unfollowed := true, recurses := true, apart := false, narrowed := true }
def FnExactTightOkUptoSaid : Prop := fnExactTightOkUptoRow.holds Try.pinned (OpenSpec.upto fnExactTightOkSpec)

end Rows
end Go.Proofs.Ytodmgcbcacblbaa
