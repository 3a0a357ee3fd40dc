/-
  No cell of these rows narrows 'for every input' (looked for: loops, veiled, ifaces, maps, wideKeys, modest, calm, conditions, laid).
  DERIVED. THE GIVEN ROWS OF THIS SEAT. 5 by the template 'for every input the law returns true; each argument reads behind the call as it read before'; 0 by the template 'total and deterministic' (their statements: YtfdlfgokoponmaaTotals.lean).
  GIVEN WITH THE SEED: the statements are not yours to turn. If you find one false, say at which input.
  Laid BY PROGRAM, IN A SANDBOX (cutbox-rows.mjs): the forced cells as the released guide's own fill.sh prints them over the translation 077f15d34f603bb5… (all of the seat's roots in one cut). By AI agents, Wed Nov 11 2026. No macro, syntax, notation, axiom, sorry.
-/
import Derived.Test.YtfdlfgokoponmaaChecked
import GoSem.Claim
import GoSem.ClaimJoined
import GoSem.ClaimMapViews
import Derived.JoinedTies
import Derived.KernelRfl
namespace Go.Proofs.Ytfdlfgokoponmaa
/- THE CELL 'sum', in the pinned program and in every row, IS THE sha256 OF THE DUMP (.gsa) THAT YtfdlfgokoponmaaProg.lean LOADS. Nothing in Lean hashes anything: it is a label: what it is worth is what the hold of that sum in a sandbox is worth. -/
noncomputable def Try.pinned : Pinned := { name := "ytfdlfgokoponmaa", sum := "077f15d34f603bb5bbac2f7febe68cab03a5dfe745a6eec314681beff75ca3c9", checked := Try.checked }
namespace Rows
def none {H : Type} : Left H := { results := [], args := [] }

/-- 'laws.FnWagerOk': WHATEVER THE INPUT: true; the input reads as it did. -/
def fnWagerOkSpec : ChangeSpec := { name := "fnWagerOk", fn := fun _ => fun
  | [d] => { results := [.lit (.bool true)], args := [d] }
  | _ => none }
def fnWagerOkRow : OpenClaim := { program := "ytfdlfgokoponmaa", sum := "077f15d34f603bb5bbac2f7febe68cab03a5dfe745a6eec314681beff75ca3c9", func := "loop.example/fairbooks/laws.FnWagerOk", spec := "fnWagerOk", unfollowed := true, recurses := true, apart := false }
def FnWagerOkSaid : Prop := fnWagerOkRow.holds Try.pinned (OpenSpec.ofChange fnWagerOkSpec)

/-- ITS FALSE NEIGHBOUR: 'it returns false'. Refute it at one input. -/
def fnWagerOkWrong : ChangeSpec := { name := "fnWagerOk", fn := fun _ => fun
  | [d] => { results := [.lit (.bool false)], args := [d] }
  | _ => none }
def FnWagerOkWrongFalsely : Prop := fnWagerOkRow.holds Try.pinned (OpenSpec.ofChange fnWagerOkWrong)

/-- 'laws.FnWagerGain': WHATEVER THE INPUT: true; the input reads as it did. -/
def fnWagerGainSpec : ChangeSpec := { name := "fnWagerGain", fn := fun _ => fun
  | [d] => { results := [.lit (.bool true)], args := [d] }
  | _ => none }
def fnWagerGainRow : OpenClaim := { program := "ytfdlfgokoponmaa", sum := "077f15d34f603bb5bbac2f7febe68cab03a5dfe745a6eec314681beff75ca3c9", func := "loop.example/fairbooks/laws.FnWagerGain", spec := "fnWagerGain", unfollowed := true, recurses := true, apart := false }
def FnWagerGainSaid : Prop := fnWagerGainRow.holds Try.pinned (OpenSpec.ofChange fnWagerGainSpec)

/-- ITS FALSE NEIGHBOUR: 'it returns false'. Refute it at one input. -/
def fnWagerGainWrong : ChangeSpec := { name := "fnWagerGain", fn := fun _ => fun
  | [d] => { results := [.lit (.bool false)], args := [d] }
  | _ => none }
def FnWagerGainWrongFalsely : Prop := fnWagerGainRow.holds Try.pinned (OpenSpec.ofChange fnWagerGainWrong)

/-- 'laws.FnSameBets': WHATEVER THE INPUT: true; the input reads as it did. -/
def fnSameBetsSpec : ChangeSpec := { name := "fnSameBets", fn := fun _ => fun
  | [d] => { results := [.lit (.bool true)], args := [d] }
  | _ => none }
def fnSameBetsRow : OpenClaim := { program := "ytfdlfgokoponmaa", sum := "077f15d34f603bb5bbac2f7febe68cab03a5dfe745a6eec314681beff75ca3c9", func := "loop.example/fairbooks/laws.FnSameBets", spec := "fnSameBets", unfollowed := true, recurses := true, apart := false }
def FnSameBetsSaid : Prop := fnSameBetsRow.holds Try.pinned (OpenSpec.ofChange fnSameBetsSpec)

/-- ITS FALSE NEIGHBOUR: 'it returns false'. Refute it at one input. -/
def fnSameBetsWrong : ChangeSpec := { name := "fnSameBets", fn := fun _ => fun
  | [d] => { results := [.lit (.bool false)], args := [d] }
  | _ => none }
def FnSameBetsWrongFalsely : Prop := fnSameBetsRow.holds Try.pinned (OpenSpec.ofChange fnSameBetsWrong)

/-- 'laws.FnExactWagerOk': WHATEVER THE INPUT: true; the input reads as it did. -/
def fnExactWagerOkSpec : ChangeSpec := { name := "fnExactWagerOk", fn := fun _ => fun
  | [d] => { results := [.lit (.bool true)], args := [d] }
  | _ => none }
def fnExactWagerOkRow : OpenClaim := { program := "ytfdlfgokoponmaa", sum := "077f15d34f603bb5bbac2f7febe68cab03a5dfe745a6eec314681beff75ca3c9", func := "loop.example/fairbooks/laws.FnExactWagerOk", spec := "fnExactWagerOk", unfollowed := true, recurses := true, apart := false }
def FnExactWagerOkSaid : Prop := fnExactWagerOkRow.holds Try.pinned (OpenSpec.ofChange fnExactWagerOkSpec)

/-- ITS FALSE NEIGHBOUR: 'it returns false'. Refute it at one input. -/
def fnExactWagerOkWrong : ChangeSpec := { name := "fnExactWagerOk", fn := fun _ => fun
  | [d] => { results := [.lit (.bool false)], args := [d] }
  | _ => none }
def FnExactWagerOkWrongFalsely : Prop := fnExactWagerOkRow.holds Try.pinned (OpenSpec.ofChange fnExactWagerOkWrong)

/-- 'laws.FnExactWagerGain': WHATEVER THE INPUT: true; the input reads as it did. -/
def fnExactWagerGainSpec : ChangeSpec := { name := "fnExactWagerGain", fn := fun _ => fun
  | [d] => { results := [.lit (.bool true)], args := [d] }
  | _ => none }
def fnExactWagerGainRow : OpenClaim := { program := "ytfdlfgokoponmaa", sum := "077f15d34f603bb5bbac2f7febe68cab03a5dfe745a6eec314681beff75ca3c9", func := "loop.example/fairbooks/laws.FnExactWagerGain", spec := "fnExactWagerGain", unfollowed := true, recurses := true, apart := false }
def FnExactWagerGainSaid : Prop := fnExactWagerGainRow.holds Try.pinned (OpenSpec.ofChange fnExactWagerGainSpec)

/-- ITS FALSE NEIGHBOUR: 'it returns false'. Refute it at one input. -/
def fnExactWagerGainWrong : ChangeSpec := { name := "fnExactWagerGain", fn := fun _ => fun
  | [d] => { results := [.lit (.bool false)], args := [d] }
  | _ => none }
def FnExactWagerGainWrongFalsely : Prop := fnExactWagerGainRow.holds Try.pinned (OpenSpec.ofChange fnExactWagerGainWrong)

/- THE SECOND FORM. 'bulk': how many values and letters a reading holds, each counted each time it is reached (what is shared counts as often as it is met; a slice's spare places count too). A statement '..UptoSaid' is the law's where the arguments, and the package variables that the reading takes, are together of bulk at most 1048576: NARROWER than '..Said'. Prove '..Said' where nothing that the law and all that it calls make is longer than what came in: it says more and counts as full. Else prove '..UptoSaid'. A law counts once. -/
mutual
def uptoBulk {H : Type} : DataW H → Nat
  | .lit (.string bytes) => bytes.length + 1
  | .lit _ => 1
  | .nil => 1
  | .ptr d => uptoBulk d + 1
  | .slice elems spare => uptoBulkAll elems + uptoBulkAll spare + 1
  | .agg parts => uptoBulkAll parts + 1
  | .iface _ d => uptoBulk d + 1
  | .map entries => uptoBulkEntries entries + 1
  | .held _ => 1
def uptoBulkAll {H : Type} : List (DataW H) → Nat
  | [] => 0
  | d :: r => uptoBulk d + uptoBulkAll r
def uptoBulkEntries {H : Type} : List (Lit × DataW H) → Nat
  | [] => 0
  | x :: r => uptoBulkEntry x + uptoBulkEntries r
def uptoBulkEntry {H : Type} : Lit × DataW H → Nat
  | (.string bytes, d) => bytes.length + uptoBulk d + 1
  | (_, d) => uptoBulk d + 1
 end
def uptoSmall : (H : Type) → List (DataW H) → Bool := fun _ ds => decide (uptoBulkAll ds ≤ 1048576)
def OpenSpec.upto (s : _root_.Go.ChangeSpec) : _root_.Go.OpenSpec := { _root_.Go.OpenSpec.ofChange s with cond := some uptoSmall }

/-- 'laws.FnWagerOk', WHERE WHAT IT READS IS OF BULK AT MOST 1048576: true; the input reads as it did. -/
def fnWagerOkUptoRow : OpenClaim := { program := "ytfdlfgokoponmaa", sum := "077f15d34f603bb5bbac2f7febe68cab03a5dfe745a6eec314681beff75ca3c9", func := "loop.example/fairbooks/laws.FnWagerOk", spec := "fnWagerOk", unfollowed := true, recurses := true, apart := false, narrowed := true }
def FnWagerOkUptoSaid : Prop := fnWagerOkUptoRow.holds Try.pinned (OpenSpec.upto fnWagerOkSpec)

/-- 'laws.FnWagerGain', WHERE WHAT IT READS IS OF BULK AT MOST 1048576: true; the input reads as it did. -/
def fnWagerGainUptoRow : OpenClaim := { program := "ytfdlfgokoponmaa", sum := "077f15d34f603bb5bbac2f7febe68cab03a5dfe745a6eec314681beff75ca3c9", func := "loop.example/fairbooks/laws.FnWagerGain", spec := "fnWagerGain", unfollowed := true, recurses := true, apart := false, narrowed := true }
def FnWagerGainUptoSaid : Prop := fnWagerGainUptoRow.holds Try.pinned (OpenSpec.upto fnWagerGainSpec)

/-- 'laws.FnSameBets', WHERE WHAT IT READS IS OF BULK AT MOST 1048576: true; the input reads as it did. -/
def fnSameBetsUptoRow : OpenClaim := { program := "ytfdlfgokoponmaa", sum := "077f15d34f603bb5bbac2f7febe68cab03a5dfe745a6eec314681beff75ca3c9", func := "loop.example/fairbooks/laws.FnSameBets", spec := "fnSameBets", unfollowed := true, recurses := true, apart := false, narrowed := true }
def FnSameBetsUptoSaid : Prop := fnSameBetsUptoRow.holds Try.pinned (OpenSpec.upto fnSameBetsSpec)

/-- 'laws.FnExactWagerOk', WHERE WHAT IT READS IS OF BULK AT MOST 1048576: true; the input reads as it did. -/
def fnExactWagerOkUptoRow : OpenClaim := { program := "ytfdlfgokoponmaa", sum := "077f15d34f603bb5bbac2f7febe68cab03a5dfe745a6eec314681beff75ca3c9", func := "loop.example/fairbooks/laws.FnExactWagerOk", spec := "fnExactWagerOk", unfollowed := true, recurses := true, apart := false, narrowed := true }
def FnExactWagerOkUptoSaid : Prop := fnExactWagerOkUptoRow.holds Try.pinned (OpenSpec.upto fnExactWagerOkSpec)

/-- 'laws.FnExactWagerGain', WHERE WHAT IT READS IS OF BULK AT MOST 1048576: true; the input reads as it did. -/
def fnExactWagerGainUptoRow : OpenClaim := { program := "ytfdlfgokoponmaa", sum := "077f15d34f603bb5bbac2f7febe68cab03a5dfe745a6eec314681beff75ca3c9", func := "loop.example/fairbooks/laws.FnExactWagerGain", spec := "fnExactWagerGain", unfollowed := true, recurses := true, apart := false, narrowed := true }
def FnExactWagerGainUptoSaid : Prop := fnExactWagerGainUptoRow.holds Try.pinned (OpenSpec.upto fnExactWagerGainSpec)

end Rows
end Go.Proofs.Ytfdlfgokoponmaa
