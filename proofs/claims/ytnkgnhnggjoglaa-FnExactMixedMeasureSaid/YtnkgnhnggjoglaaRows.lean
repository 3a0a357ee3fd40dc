/-
  No cell of these rows narrows 'for every input' (looked for: loops, veiled, ifaces, maps, wideKeys, modest, calm, conditions, laid).
  DERIVED. THE GIVEN ROWS OF THIS SEAT. 15 by the template 'for every input the law returns true; each argument reads behind the call as it read before'; 0 by the template 'total and deterministic' (their statements: YtnkgnhnggjoglaaTotals.lean).
  GIVEN WITH THE SEED: the statements are not yours to turn. If you find one false, say at which input.
  Laid BY PROGRAM, IN A SANDBOX (cutbox-rows.mjs): the forced cells as the released guide's own fill.sh prints them over the translation 9c5539d745edc4df… (all of the seat's roots in one cut). By AI agents, Wed Nov 11 2026. No macro, syntax, notation, axiom, sorry.
-/
import Derived.Test.YtnkgnhnggjoglaaChecked
import GoSem.Claim
import GoSem.ClaimJoined
import GoSem.ClaimMapViews
import Derived.JoinedTies
import Derived.KernelRfl
namespace Go.Proofs.Ytnkgnhnggjoglaa
/- THE CELL 'sum', in the pinned program and in every row, IS THE sha256 OF THE DUMP (.gsa) THAT YtnkgnhnggjoglaaProg.lean LOADS. Nothing in Lean hashes anything: it is a label: what it is worth is what the hold of that sum in a sandbox is worth. -/
noncomputable def Try.pinned : Pinned := { name := "ytnkgnhnggjoglaa", sum := "9c5539d745edc4df5b501f442d41e9d6e95c039871d38c4675e69ac30b226566", checked := Try.checked }
namespace Rows
def none {H : Type} : Left H := { results := [], args := [] }

/-- 'laws.FnScoreOf': WHATEVER THE INPUT: true; the input reads as it did. -/
def fnScoreOfSpec : ChangeSpec := { name := "fnScoreOf", fn := fun _ => fun
  | [d] => { results := [.lit (.bool true)], args := [d] }
  | _ => none }
def fnScoreOfRow : OpenClaim := { program := "ytnkgnhnggjoglaa", sum := "9c5539d745edc4df5b501f442d41e9d6e95c039871d38c4675e69ac30b226566", func := "loop.example/fairbooks/laws.FnScoreOf", spec := "fnScoreOf", unfollowed := true, recurses := true, apart := false }
def FnScoreOfSaid : Prop := fnScoreOfRow.holds Try.pinned (OpenSpec.ofChange fnScoreOfSpec)

/-- ITS FALSE NEIGHBOUR: 'it returns false'. Refute it at one input. -/
def fnScoreOfWrong : ChangeSpec := { name := "fnScoreOf", fn := fun _ => fun
  | [d] => { results := [.lit (.bool false)], args := [d] }
  | _ => none }
def FnScoreOfWrongFalsely : Prop := fnScoreOfRow.holds Try.pinned (OpenSpec.ofChange fnScoreOfWrong)

/-- 'laws.FnExpectedScore': WHATEVER THE INPUT: true; the input reads as it did. -/
def fnExpectedScoreSpec : ChangeSpec := { name := "fnExpectedScore", fn := fun _ => fun
  | [d] => { results := [.lit (.bool true)], args := [d] }
  | _ => none }
def fnExpectedScoreRow : OpenClaim := { program := "ytnkgnhnggjoglaa", sum := "9c5539d745edc4df5b501f442d41e9d6e95c039871d38c4675e69ac30b226566", func := "loop.example/fairbooks/laws.FnExpectedScore", spec := "fnExpectedScore", unfollowed := true, recurses := true, apart := false }
def FnExpectedScoreSaid : Prop := fnExpectedScoreRow.holds Try.pinned (OpenSpec.ofChange fnExpectedScoreSpec)

/-- ITS FALSE NEIGHBOUR: 'it returns false'. Refute it at one input. -/
def fnExpectedScoreWrong : ChangeSpec := { name := "fnExpectedScore", fn := fun _ => fun
  | [d] => { results := [.lit (.bool false)], args := [d] }
  | _ => none }
def FnExpectedScoreWrongFalsely : Prop := fnExpectedScoreRow.holds Try.pinned (OpenSpec.ofChange fnExpectedScoreWrong)

/-- 'laws.FnFarApart': WHATEVER THE INPUT: true; the input reads as it did. -/
def fnFarApartSpec : ChangeSpec := { name := "fnFarApart", fn := fun _ => fun
  | [d] => { results := [.lit (.bool true)], args := [d] }
  | _ => none }
def fnFarApartRow : OpenClaim := { program := "ytnkgnhnggjoglaa", sum := "9c5539d745edc4df5b501f442d41e9d6e95c039871d38c4675e69ac30b226566", func := "loop.example/fairbooks/laws.FnFarApart", spec := "fnFarApart", unfollowed := true, recurses := true, apart := false }
def FnFarApartSaid : Prop := fnFarApartRow.holds Try.pinned (OpenSpec.ofChange fnFarApartSpec)

/-- ITS FALSE NEIGHBOUR: 'it returns false'. Refute it at one input. -/
def fnFarApartWrong : ChangeSpec := { name := "fnFarApart", fn := fun _ => fun
  | [d] => { results := [.lit (.bool false)], args := [d] }
  | _ => none }
def FnFarApartWrongFalsely : Prop := fnFarApartRow.holds Try.pinned (OpenSpec.ofChange fnFarApartWrong)

/-- 'laws.FnBestReport': WHATEVER THE INPUT: true; the input reads as it did. -/
def fnBestReportSpec : ChangeSpec := { name := "fnBestReport", fn := fun _ => fun
  | [d] => { results := [.lit (.bool true)], args := [d] }
  | _ => none }
def fnBestReportRow : OpenClaim := { program := "ytnkgnhnggjoglaa", sum := "9c5539d745edc4df5b501f442d41e9d6e95c039871d38c4675e69ac30b226566", func := "loop.example/fairbooks/laws.FnBestReport", spec := "fnBestReport", unfollowed := true, recurses := true, apart := false }
def FnBestReportSaid : Prop := fnBestReportRow.holds Try.pinned (OpenSpec.ofChange fnBestReportSpec)

/-- ITS FALSE NEIGHBOUR: 'it returns false'. Refute it at one input. -/
def fnBestReportWrong : ChangeSpec := { name := "fnBestReport", fn := fun _ => fun
  | [d] => { results := [.lit (.bool false)], args := [d] }
  | _ => none }
def FnBestReportWrongFalsely : Prop := fnBestReportRow.holds Try.pinned (OpenSpec.ofChange fnBestReportWrong)

/-- 'laws.FnTotalScore': WHATEVER THE INPUT: true; the input reads as it did. -/
def fnTotalScoreSpec : ChangeSpec := { name := "fnTotalScore", fn := fun _ => fun
  | [d] => { results := [.lit (.bool true)], args := [d] }
  | _ => none }
def fnTotalScoreRow : OpenClaim := { program := "ytnkgnhnggjoglaa", sum := "9c5539d745edc4df5b501f442d41e9d6e95c039871d38c4675e69ac30b226566", func := "loop.example/fairbooks/laws.FnTotalScore", spec := "fnTotalScore", unfollowed := true, recurses := true, apart := false }
def FnTotalScoreSaid : Prop := fnTotalScoreRow.holds Try.pinned (OpenSpec.ofChange fnTotalScoreSpec)

/-- ITS FALSE NEIGHBOUR: 'it returns false'. Refute it at one input. -/
def fnTotalScoreWrong : ChangeSpec := { name := "fnTotalScore", fn := fun _ => fun
  | [d] => { results := [.lit (.bool false)], args := [d] }
  | _ => none }
def FnTotalScoreWrongFalsely : Prop := fnTotalScoreRow.holds Try.pinned (OpenSpec.ofChange fnTotalScoreWrong)

/-- 'laws.FnSeenMeasure': WHATEVER THE INPUT: true; the input reads as it did. -/
def fnSeenMeasureSpec : ChangeSpec := { name := "fnSeenMeasure", fn := fun _ => fun
  | [d1, d2] => { results := [.lit (.bool true)], args := [d1, d2] }
  | _ => none }
def fnSeenMeasureRow : OpenClaim := { program := "ytnkgnhnggjoglaa", sum := "9c5539d745edc4df5b501f442d41e9d6e95c039871d38c4675e69ac30b226566", func := "loop.example/fairbooks/laws.FnSeenMeasure", spec := "fnSeenMeasure", unfollowed := true, recurses := true, apart := false }
def FnSeenMeasureSaid : Prop := fnSeenMeasureRow.holds Try.pinned (OpenSpec.ofChange fnSeenMeasureSpec)

/-- ITS FALSE NEIGHBOUR: 'it returns false'. Refute it at one input. -/
def fnSeenMeasureWrong : ChangeSpec := { name := "fnSeenMeasure", fn := fun _ => fun
  | [d1, d2] => { results := [.lit (.bool false)], args := [d1, d2] }
  | _ => none }
def FnSeenMeasureWrongFalsely : Prop := fnSeenMeasureRow.holds Try.pinned (OpenSpec.ofChange fnSeenMeasureWrong)

/-- 'laws.FnMixScore': WHATEVER THE INPUT: true; the input reads as it did. -/
def fnMixScoreSpec : ChangeSpec := { name := "fnMixScore", fn := fun _ => fun
  | [d1, d2] => { results := [.lit (.bool true)], args := [d1, d2] }
  | _ => none }
def fnMixScoreRow : OpenClaim := { program := "ytnkgnhnggjoglaa", sum := "9c5539d745edc4df5b501f442d41e9d6e95c039871d38c4675e69ac30b226566", func := "loop.example/fairbooks/laws.FnMixScore", spec := "fnMixScore", unfollowed := true, recurses := true, apart := false }
def FnMixScoreSaid : Prop := fnMixScoreRow.holds Try.pinned (OpenSpec.ofChange fnMixScoreSpec)

/-- ITS FALSE NEIGHBOUR: 'it returns false'. Refute it at one input. -/
def fnMixScoreWrong : ChangeSpec := { name := "fnMixScore", fn := fun _ => fun
  | [d1, d2] => { results := [.lit (.bool false)], args := [d1, d2] }
  | _ => none }
def FnMixScoreWrongFalsely : Prop := fnMixScoreRow.holds Try.pinned (OpenSpec.ofChange fnMixScoreWrong)

/-- 'laws.FnExactScoreOf': WHATEVER THE INPUT: true; the input reads as it did. -/
def fnExactScoreOfSpec : ChangeSpec := { name := "fnExactScoreOf", fn := fun _ => fun
  | [d1, d2] => { results := [.lit (.bool true)], args := [d1, d2] }
  | _ => none }
def fnExactScoreOfRow : OpenClaim := { program := "ytnkgnhnggjoglaa", sum := "9c5539d745edc4df5b501f442d41e9d6e95c039871d38c4675e69ac30b226566", func := "loop.example/fairbooks/laws.FnExactScoreOf", spec := "fnExactScoreOf", unfollowed := true, recurses := true, apart := false }
def FnExactScoreOfSaid : Prop := fnExactScoreOfRow.holds Try.pinned (OpenSpec.ofChange fnExactScoreOfSpec)

/-- ITS FALSE NEIGHBOUR: 'it returns false'. Refute it at one input. -/
def fnExactScoreOfWrong : ChangeSpec := { name := "fnExactScoreOf", fn := fun _ => fun
  | [d1, d2] => { results := [.lit (.bool false)], args := [d1, d2] }
  | _ => none }
def FnExactScoreOfWrongFalsely : Prop := fnExactScoreOfRow.holds Try.pinned (OpenSpec.ofChange fnExactScoreOfWrong)

/-- 'laws.FnExactExpectedScore': WHATEVER THE INPUT: true; the input reads as it did. -/
def fnExactExpectedScoreSpec : ChangeSpec := { name := "fnExactExpectedScore", fn := fun _ => fun
  | [d1, d2] => { results := [.lit (.bool true)], args := [d1, d2] }
  | _ => none }
def fnExactExpectedScoreRow : OpenClaim := { program := "ytnkgnhnggjoglaa", sum := "9c5539d745edc4df5b501f442d41e9d6e95c039871d38c4675e69ac30b226566", func := "loop.example/fairbooks/laws.FnExactExpectedScore", spec := "fnExactExpectedScore", unfollowed := true, recurses := true, apart := false }
def FnExactExpectedScoreSaid : Prop := fnExactExpectedScoreRow.holds Try.pinned (OpenSpec.ofChange fnExactExpectedScoreSpec)

/-- ITS FALSE NEIGHBOUR: 'it returns false'. Refute it at one input. -/
def fnExactExpectedScoreWrong : ChangeSpec := { name := "fnExactExpectedScore", fn := fun _ => fun
  | [d1, d2] => { results := [.lit (.bool false)], args := [d1, d2] }
  | _ => none }
def FnExactExpectedScoreWrongFalsely : Prop := fnExactExpectedScoreRow.holds Try.pinned (OpenSpec.ofChange fnExactExpectedScoreWrong)

/-- 'laws.FnExactFarApart': WHATEVER THE INPUT: true; the input reads as it did. -/
def fnExactFarApartSpec : ChangeSpec := { name := "fnExactFarApart", fn := fun _ => fun
  | [d1, d2] => { results := [.lit (.bool true)], args := [d1, d2] }
  | _ => none }
def fnExactFarApartRow : OpenClaim := { program := "ytnkgnhnggjoglaa", sum := "9c5539d745edc4df5b501f442d41e9d6e95c039871d38c4675e69ac30b226566", func := "loop.example/fairbooks/laws.FnExactFarApart", spec := "fnExactFarApart", unfollowed := true, recurses := true, apart := false }
def FnExactFarApartSaid : Prop := fnExactFarApartRow.holds Try.pinned (OpenSpec.ofChange fnExactFarApartSpec)

/-- ITS FALSE NEIGHBOUR: 'it returns false'. Refute it at one input. -/
def fnExactFarApartWrong : ChangeSpec := { name := "fnExactFarApart", fn := fun _ => fun
  | [d1, d2] => { results := [.lit (.bool false)], args := [d1, d2] }
  | _ => none }
def FnExactFarApartWrongFalsely : Prop := fnExactFarApartRow.holds Try.pinned (OpenSpec.ofChange fnExactFarApartWrong)

/-- 'laws.FnExactTotalScore': WHATEVER THE INPUT: true; the input reads as it did. -/
def fnExactTotalScoreSpec : ChangeSpec := { name := "fnExactTotalScore", fn := fun _ => fun
  | [d1, d2] => { results := [.lit (.bool true)], args := [d1, d2] }
  | _ => none }
def fnExactTotalScoreRow : OpenClaim := { program := "ytnkgnhnggjoglaa", sum := "9c5539d745edc4df5b501f442d41e9d6e95c039871d38c4675e69ac30b226566", func := "loop.example/fairbooks/laws.FnExactTotalScore", spec := "fnExactTotalScore", unfollowed := true, recurses := true, apart := false }
def FnExactTotalScoreSaid : Prop := fnExactTotalScoreRow.holds Try.pinned (OpenSpec.ofChange fnExactTotalScoreSpec)

/-- ITS FALSE NEIGHBOUR: 'it returns false'. Refute it at one input. -/
def fnExactTotalScoreWrong : ChangeSpec := { name := "fnExactTotalScore", fn := fun _ => fun
  | [d1, d2] => { results := [.lit (.bool false)], args := [d1, d2] }
  | _ => none }
def FnExactTotalScoreWrongFalsely : Prop := fnExactTotalScoreRow.holds Try.pinned (OpenSpec.ofChange fnExactTotalScoreWrong)

/-- 'laws.FnExactBestReport': WHATEVER THE INPUT: true; the input reads as it did. -/
def fnExactBestReportSpec : ChangeSpec := { name := "fnExactBestReport", fn := fun _ => fun
  | [d1, d2] => { results := [.lit (.bool true)], args := [d1, d2] }
  | _ => none }
def fnExactBestReportRow : OpenClaim := { program := "ytnkgnhnggjoglaa", sum := "9c5539d745edc4df5b501f442d41e9d6e95c039871d38c4675e69ac30b226566", func := "loop.example/fairbooks/laws.FnExactBestReport", spec := "fnExactBestReport", unfollowed := true, recurses := true, apart := false }
def FnExactBestReportSaid : Prop := fnExactBestReportRow.holds Try.pinned (OpenSpec.ofChange fnExactBestReportSpec)

/-- ITS FALSE NEIGHBOUR: 'it returns false'. Refute it at one input. -/
def fnExactBestReportWrong : ChangeSpec := { name := "fnExactBestReport", fn := fun _ => fun
  | [d1, d2] => { results := [.lit (.bool false)], args := [d1, d2] }
  | _ => none }
def FnExactBestReportWrongFalsely : Prop := fnExactBestReportRow.holds Try.pinned (OpenSpec.ofChange fnExactBestReportWrong)

/-- 'laws.FnExactSeenMeasure': WHATEVER THE INPUT: true; the input reads as it did. -/
def fnExactSeenMeasureSpec : ChangeSpec := { name := "fnExactSeenMeasure", fn := fun _ => fun
  | [d1, d2] => { results := [.lit (.bool true)], args := [d1, d2] }
  | _ => none }
def fnExactSeenMeasureRow : OpenClaim := { program := "ytnkgnhnggjoglaa", sum := "9c5539d745edc4df5b501f442d41e9d6e95c039871d38c4675e69ac30b226566", func := "loop.example/fairbooks/laws.FnExactSeenMeasure", spec := "fnExactSeenMeasure", apart := false }
def FnExactSeenMeasureSaid : Prop := fnExactSeenMeasureRow.holds Try.pinned (OpenSpec.ofChange fnExactSeenMeasureSpec)

/-- ITS FALSE NEIGHBOUR: 'it returns false'. Refute it at one input. -/
def fnExactSeenMeasureWrong : ChangeSpec := { name := "fnExactSeenMeasure", fn := fun _ => fun
  | [d1, d2] => { results := [.lit (.bool false)], args := [d1, d2] }
  | _ => none }
def FnExactSeenMeasureWrongFalsely : Prop := fnExactSeenMeasureRow.holds Try.pinned (OpenSpec.ofChange fnExactSeenMeasureWrong)

/-- 'laws.FnMixedMeasure': WHATEVER THE INPUT: true; the input reads as it did. -/
def fnMixedMeasureSpec : ChangeSpec := { name := "fnMixedMeasure", fn := fun _ => fun
  | [d1, d2] => { results := [.lit (.bool true)], args := [d1, d2] }
  | _ => none }
def fnMixedMeasureRow : OpenClaim := { program := "ytnkgnhnggjoglaa", sum := "9c5539d745edc4df5b501f442d41e9d6e95c039871d38c4675e69ac30b226566", func := "loop.example/fairbooks/laws.FnMixedMeasure", spec := "fnMixedMeasure", unfollowed := true, recurses := true, apart := false }
def FnMixedMeasureSaid : Prop := fnMixedMeasureRow.holds Try.pinned (OpenSpec.ofChange fnMixedMeasureSpec)

/-- ITS FALSE NEIGHBOUR: 'it returns false'. Refute it at one input. -/
def fnMixedMeasureWrong : ChangeSpec := { name := "fnMixedMeasure", fn := fun _ => fun
  | [d1, d2] => { results := [.lit (.bool false)], args := [d1, d2] }
  | _ => none }
def FnMixedMeasureWrongFalsely : Prop := fnMixedMeasureRow.holds Try.pinned (OpenSpec.ofChange fnMixedMeasureWrong)

/-- 'laws.FnExactMixedMeasure': WHATEVER THE INPUT: true; the input reads as it did. -/
def fnExactMixedMeasureSpec : ChangeSpec := { name := "fnExactMixedMeasure", fn := fun _ => fun
  | [d1, d2] => { results := [.lit (.bool true)], args := [d1, d2] }
  | _ => none }
def fnExactMixedMeasureRow : OpenClaim := { program := "ytnkgnhnggjoglaa", sum := "9c5539d745edc4df5b501f442d41e9d6e95c039871d38c4675e69ac30b226566", func := "loop.example/fairbooks/laws.FnExactMixedMeasure", spec := "fnExactMixedMeasure", apart := false }
def FnExactMixedMeasureSaid : Prop := fnExactMixedMeasureRow.holds Try.pinned (OpenSpec.ofChange fnExactMixedMeasureSpec)

/-- ITS FALSE NEIGHBOUR: 'it returns false'. Refute it at one input. -/
def fnExactMixedMeasureWrong : ChangeSpec := { name := "fnExactMixedMeasure", fn := fun _ => fun
  | [d1, d2] => { results := [.lit (.bool false)], args := [d1, d2] }
  | _ => none }
def FnExactMixedMeasureWrongFalsely : Prop := fnExactMixedMeasureRow.holds Try.pinned (OpenSpec.ofChange fnExactMixedMeasureWrong)

/- THE SECOND FORM. 'bulk': how many values and letters a reading holds, each counted each time it is reached (what is shared counts as often as it is met; a slice's spare places count too). A statement '..UptoSaid' is the law's where the arguments, and the package variables that the reading takes, are together of bulk at most 1048576: NARROWER than '..Said'. Prove '..Said' where nothing that the law and all that it calls make is longer than what came in: it says more and counts as full. Else prove '..UptoSaid'. A law counts once. -/
mutual
def uptoBulk {H : Type} : DataW H → Nat
  | .lit (.string bytes) => bytes.length + 1
  | .lit _ => 1
  | .nil => 1
  | .ptr d => uptoBulk d + 1
  | .slice elems spare => uptoBulkAll elems + uptoBulkAll spare + 1
  | .agg parts => uptoBulkAll parts + 1
  | .iface _ d => uptoBulk d + 1
  | .map entries => uptoBulkEntries entries + 1
  | .held _ => 1
def uptoBulkAll {H : Type} : List (DataW H) → Nat
  | [] => 0
  | d :: r => uptoBulk d + uptoBulkAll r
def uptoBulkEntries {H : Type} : List (Lit × DataW H) → Nat
  | [] => 0
  | x :: r => uptoBulkEntry x + uptoBulkEntries r
def uptoBulkEntry {H : Type} : Lit × DataW H → Nat
  | (.string bytes, d) => bytes.length + uptoBulk d + 1
  | (_, d) => uptoBulk d + 1
 end
def uptoSmall : (H : Type) → List (DataW H) → Bool := fun _ ds => decide (uptoBulkAll ds ≤ 1048576)
def OpenSpec.upto (s : _root_.Go.ChangeSpec) : _root_.Go.OpenSpec := { _root_.Go.OpenSpec.ofChange s with cond := some uptoSmall }

/-- 'laws.FnScoreOf', WHERE WHAT IT READS IS OF BULK AT MOST 1048576: true; the input reads as it did. -/
def fnScoreOfUptoRow : OpenClaim := { program := "ytnkgnhnggjoglaa", sum := "9c5539d745edc4df5b501f442d41e9d6e95c039871d38c4675e69ac30b226566", func := "loop.example/fairbooks/laws.FnScoreOf", spec := "fnScoreOf", unfollowed := true, recurses := true, apart := false, narrowed := true }
def FnScoreOfUptoSaid : Prop := fnScoreOfUptoRow.holds Try.pinned (OpenSpec.upto fnScoreOfSpec)

/-- 'laws.FnExpectedScore', WHERE WHAT IT READS IS OF BULK AT MOST 1048576: true; the input reads as it did. -/
def fnExpectedScoreUptoRow : OpenClaim := { program := "ytnkgnhnggjoglaa", sum := "9c5539d745edc4df5b501f442d41e9d6e95c039871d38c4675e69ac30b226566", func := "loop.example/fairbooks/laws.FnExpectedScore", spec := "fnExpectedScore", unfollowed := true, recurses := true, apart := false, narrowed := true }
def FnExpectedScoreUptoSaid : Prop := fnExpectedScoreUptoRow.holds Try.pinned (OpenSpec.upto fnExpectedScoreSpec)

/-- 'laws.FnFarApart', WHERE WHAT IT READS IS OF BULK AT MOST 1048576: true; the input reads as it did. -/
def fnFarApartUptoRow : OpenClaim := { program := "ytnkgnhnggjoglaa", sum := "9c5539d745edc4df5b501f442d41e9d6e95c039871d38c4675e69ac30b226566", func := "loop.example/fairbooks/laws.FnFarApart", spec := "fnFarApart", unfollowed := true, recurses := true, apart := false, narrowed := true }
def FnFarApartUptoSaid : Prop := fnFarApartUptoRow.holds Try.pinned (OpenSpec.upto fnFarApartSpec)

/-- 'laws.FnBestReport', WHERE WHAT IT READS IS OF BULK AT MOST 1048576: true; the input reads as it did. -/
def fnBestReportUptoRow : OpenClaim := { program := "ytnkgnhnggjoglaa", sum := "9c5539d745edc4df5b501f442d41e9d6e95c039871d38c4675e69ac30b226566", func := "loop.example/fairbooks/laws.FnBestReport", spec := "fnBestReport", unfollowed := true, recurses := true, apart := false, narrowed := true }
def FnBestReportUptoSaid : Prop := fnBestReportUptoRow.holds Try.pinned (OpenSpec.upto fnBestReportSpec)

/-- 'laws.FnTotalScore', WHERE WHAT IT READS IS OF BULK AT MOST 1048576: true; the input reads as it did. -/
def fnTotalScoreUptoRow : OpenClaim := { program := "ytnkgnhnggjoglaa", sum := "9c5539d745edc4df5b501f442d41e9d6e95c039871d38c4675e69ac30b226566", func := "loop.example/fairbooks/laws.FnTotalScore", spec := "fnTotalScore", unfollowed := true, recurses := true, apart := false, narrowed := true }
def FnTotalScoreUptoSaid : Prop := fnTotalScoreUptoRow.holds Try.pinned (OpenSpec.upto fnTotalScoreSpec)

/-- 'laws.FnSeenMeasure', WHERE WHAT IT READS IS OF BULK AT MOST 1048576: true; the input reads as it did. -/
def fnSeenMeasureUptoRow : OpenClaim := { program := "ytnkgnhnggjoglaa", sum := "9c5539d745edc4df5b501f442d41e9d6e95c039871d38c4675e69ac30b226566", func := "loop.example/fairbooks/laws.FnSeenMeasure", spec := "fnSeenMeasure", unfollowed := true, recurses := true, apart := false, narrowed := true }
def FnSeenMeasureUptoSaid : Prop := fnSeenMeasureUptoRow.holds Try.pinned (OpenSpec.upto fnSeenMeasureSpec)

/-- 'laws.FnMixScore', WHERE WHAT IT READS IS OF BULK AT MOST 1048576: true; the input reads as it did. -/
def fnMixScoreUptoRow : OpenClaim := { program := "ytnkgnhnggjoglaa", sum := "9c5539d745edc4df5b501f442d41e9d6e95c039871d38c4675e69ac30b226566", func := "loop.example/fairbooks/laws.FnMixScore", spec := "fnMixScore", unfollowed := true, recurses := true, apart := false, narrowed := true }
def FnMixScoreUptoSaid : Prop := fnMixScoreUptoRow.holds Try.pinned (OpenSpec.upto fnMixScoreSpec)

/-- 'laws.FnExactScoreOf', WHERE WHAT IT READS IS OF BULK AT MOST 1048576: true; the input reads as it did. -/
def fnExactScoreOfUptoRow : OpenClaim := { program := "ytnkgnhnggjoglaa", sum := "9c5539d745edc4df5b501f442d41e9d6e95c039871d38c4675e69ac30b226566", func := "loop.example/fairbooks/laws.FnExactScoreOf", spec := "fnExactScoreOf", unfollowed := true, recurses := true, apart := false, narrowed := true }
def FnExactScoreOfUptoSaid : Prop := fnExactScoreOfUptoRow.holds Try.pinned (OpenSpec.upto fnExactScoreOfSpec)

/-- 'laws.FnExactExpectedScore', WHERE WHAT IT READS IS OF BULK AT MOST 1048576: true; the input reads as it did. -/
def fnExactExpectedScoreUptoRow : OpenClaim := { program := "ytnkgnhnggjoglaa", sum := "9c5539d745edc4df5b501f442d41e9d6e95c039871d38c4675e69ac30b226566", func := "loop.example/fairbooks/laws.FnExactExpectedScore", spec := "fnExactExpectedScore", unfollowed := true, recurses := true, apart := false, narrowed := true }
def FnExactExpectedScoreUptoSaid : Prop := fnExactExpectedScoreUptoRow.holds Try.pinned (OpenSpec.upto fnExactExpectedScoreSpec)

/-- 'laws.FnExactFarApart', WHERE WHAT IT READS IS OF BULK AT MOST 1048576: true; the input reads as it did. -/
def fnExactFarApartUptoRow : OpenClaim := { program := "ytnkgnhnggjoglaa", sum := "9c5539d745edc4df5b501f442d41e9d6e95c039871d38c4675e69ac30b226566", func := "loop.example/fairbooks/laws.FnExactFarApart", spec := "fnExactFarApart", unfollowed := true, recurses := true, apart := false, narrowed := true }
def FnExactFarApartUptoSaid : Prop := fnExactFarApartUptoRow.holds Try.pinned (OpenSpec.upto fnExactFarApartSpec)

/-- 'laws.FnExactTotalScore', WHERE WHAT IT READS IS OF BULK AT MOST 1048576: true; the input reads as it did. -/
def fnExactTotalScoreUptoRow : OpenClaim := { program := "ytnkgnhnggjoglaa", sum := "9c5539d745edc4df5b501f442d41e9d6e95c039871d38c4675e69ac30b226566", func := "loop.example/fairbooks/laws.FnExactTotalScore", spec := "fnExactTotalScore", unfollowed := true, recurses := true, apart := false, narrowed := true }
def FnExactTotalScoreUptoSaid : Prop := fnExactTotalScoreUptoRow.holds Try.pinned (OpenSpec.upto fnExactTotalScoreSpec)

/-- 'laws.FnExactBestReport', WHERE WHAT IT READS IS OF BULK AT MOST 1048576: true; the input reads as it did. -/
def fnExactBestReportUptoRow : OpenClaim := { program := "ytnkgnhnggjoglaa", sum := "9c5539d745edc4df5b501f442d41e9d6e95c039871d38c4675e69ac30b226566", func := "loop.example/fairbooks/laws.FnExactBestReport", spec := "fnExactBestReport", unfollowed := true, recurses := true, apart := false, narrowed := true }
def FnExactBestReportUptoSaid : Prop := fnExactBestReportUptoRow.holds Try.pinned (OpenSpec.upto fnExactBestReportSpec)

/-- 'laws.FnExactSeenMeasure', WHERE WHAT IT READS IS OF BULK AT MOST 1048576: true; the input reads as it did. -/
def fnExactSeenMeasureUptoRow : OpenClaim := { program := "ytnkgnhnggjoglaa", sum := "9c5539d745edc4df5b501f442d41e9d6e95c039871d38c4675e69ac30b226566", func := "loop.example/fairbooks/laws.FnExactSeenMeasure", spec := "fnExactSeenMeasure", apart := false, narrowed := true }
def FnExactSeenMeasureUptoSaid : Prop := fnExactSeenMeasureUptoRow.holds Try.pinned (OpenSpec.upto fnExactSeenMeasureSpec)

/-- 'laws.FnMixedMeasure', WHERE WHAT IT READS IS OF BULK AT MOST 1048576: true; the input reads as it did. -/
def fnMixedMeasureUptoRow : OpenClaim := { program := "ytnkgnhnggjoglaa", sum := "9c5539d745edc4df5b501f442d41e9d6e95c039871d38c4675e69ac30b226566", func := "loop.example/fairbooks/laws.FnMixedMeasure", spec := "fnMixedMeasure", unfollowed := true, recurses := true, apart := false, narrowed := true }
def FnMixedMeasureUptoSaid : Prop := fnMixedMeasureUptoRow.holds Try.pinned (OpenSpec.upto fnMixedMeasureSpec)

/-- 'laws.FnExactMixedMeasure', WHERE WHAT IT READS IS OF BULK AT MOST 1048576: true; the input reads as it did. -/
def fnExactMixedMeasureUptoRow : OpenClaim := { program := "ytnkgnhnggjoglaa", sum := "9c5539d745edc4df5b501f442d41e9d6e95c039871d38c4675e69ac30b226566", func := "loop.example/fairbooks/laws.FnExactMixedMeasure", spec := "fnExactMixedMeasure", apart := false, narrowed := true }
def FnExactMixedMeasureUptoSaid : Prop := fnExactMixedMeasureUptoRow.holds Try.pinned (OpenSpec.upto fnExactMixedMeasureSpec)

end Rows
end Go.Proofs.Ytnkgnhnggjoglaa
