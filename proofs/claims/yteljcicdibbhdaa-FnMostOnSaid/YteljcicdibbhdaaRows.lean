/-
  No cell of these rows narrows 'for every input' (looked for: loops, veiled, ifaces, maps, wideKeys, modest, calm, conditions, laid).
  DERIVED. THE GIVEN ROWS OF THIS SEAT. 12 by the template 'for every input the law returns true; each argument reads behind the call as it read before'; 0 by the template 'total and deterministic' (their statements: YteljcicdibbhdaaTotals.lean).
  GIVEN WITH THE SEED: the statements are not yours to turn. If you find one false, say at which input.
  Laid BY PROGRAM, IN A SANDBOX (cutbox-rows.mjs): the forced cells as the released guide's own fill.sh prints them over the translation e061db22380eac83… (all of the seat's roots in one cut). By AI agents, Wed Nov 11 2026. No macro, syntax, notation, axiom, sorry.
-/
import Derived.Test.YteljcicdibbhdaaChecked
import GoSem.Claim
import GoSem.ClaimJoined
import GoSem.ClaimMapViews
import Derived.JoinedTies
import Derived.KernelRfl
namespace Go.Proofs.Yteljcicdibbhdaa
/- THE CELL 'sum', in the pinned program and in every row, IS THE sha256 OF THE DUMP (.gsa) THAT YteljcicdibbhdaaProg.lean LOADS. Nothing in Lean hashes anything: it is a label: what it is worth is what the hold of that sum in a sandbox is worth. -/
noncomputable def Try.pinned : Pinned := { name := "yteljcicdibbhdaa", sum := "e061db22380eac832db0811c56727f85c89cd602ce80c5046caa4a779658cc58", checked := Try.checked }
namespace Rows
def none {H : Type} : Left H := { results := [], args := [] }

/-- 'laws.FnLeastOn': WHATEVER THE INPUT: true; the input reads as it did. -/
def fnLeastOnSpec : ChangeSpec := { name := "fnLeastOn", fn := fun _ => fun
  | [d] => { results := [.lit (.bool true)], args := [d] }
  | _ => none }
def fnLeastOnRow : OpenClaim := { program := "yteljcicdibbhdaa", sum := "e061db22380eac832db0811c56727f85c89cd602ce80c5046caa4a779658cc58", func := "loop.example/fairbooks/laws.FnLeastOn", spec := "fnLeastOn", unfollowed := true, recurses := true, apart := false }
def FnLeastOnSaid : Prop := fnLeastOnRow.holds Try.pinned (OpenSpec.ofChange fnLeastOnSpec)

/-- ITS FALSE NEIGHBOUR: 'it returns false'. Refute it at one input. -/
def fnLeastOnWrong : ChangeSpec := { name := "fnLeastOn", fn := fun _ => fun
  | [d] => { results := [.lit (.bool false)], args := [d] }
  | _ => none }
def FnLeastOnWrongFalsely : Prop := fnLeastOnRow.holds Try.pinned (OpenSpec.ofChange fnLeastOnWrong)

/-- 'laws.FnMostOn': WHATEVER THE INPUT: true; the input reads as it did. -/
def fnMostOnSpec : ChangeSpec := { name := "fnMostOn", fn := fun _ => fun
  | [d1, d2] => { results := [.lit (.bool true)], args := [d1, d2] }
  | _ => none }
def fnMostOnRow : OpenClaim := { program := "yteljcicdibbhdaa", sum := "e061db22380eac832db0811c56727f85c89cd602ce80c5046caa4a779658cc58", func := "loop.example/fairbooks/laws.FnMostOn", spec := "fnMostOn", unfollowed := true, recurses := true, apart := false }
def FnMostOnSaid : Prop := fnMostOnRow.holds Try.pinned (OpenSpec.ofChange fnMostOnSpec)

/-- ITS FALSE NEIGHBOUR: 'it returns false'. Refute it at one input. -/
def fnMostOnWrong : ChangeSpec := { name := "fnMostOn", fn := fun _ => fun
  | [d1, d2] => { results := [.lit (.bool false)], args := [d1, d2] }
  | _ => none }
def FnMostOnWrongFalsely : Prop := fnMostOnRow.holds Try.pinned (OpenSpec.ofChange fnMostOnWrong)

/-- 'laws.FnPinnedOk': WHATEVER THE INPUT: true; the input reads as it did. -/
def fnPinnedOkSpec : ChangeSpec := { name := "fnPinnedOk", fn := fun _ => fun
  | [d] => { results := [.lit (.bool true)], args := [d] }
  | _ => none }
def fnPinnedOkRow : OpenClaim := { program := "yteljcicdibbhdaa", sum := "e061db22380eac832db0811c56727f85c89cd602ce80c5046caa4a779658cc58", func := "loop.example/fairbooks/laws.FnPinnedOk", spec := "fnPinnedOk", unfollowed := true, recurses := true, apart := false }
def FnPinnedOkSaid : Prop := fnPinnedOkRow.holds Try.pinned (OpenSpec.ofChange fnPinnedOkSpec)

/-- ITS FALSE NEIGHBOUR: 'it returns false'. Refute it at one input. -/
def fnPinnedOkWrong : ChangeSpec := { name := "fnPinnedOk", fn := fun _ => fun
  | [d] => { results := [.lit (.bool false)], args := [d] }
  | _ => none }
def FnPinnedOkWrongFalsely : Prop := fnPinnedOkRow.holds Try.pinned (OpenSpec.ofChange fnPinnedOkWrong)

/-- 'laws.FnFurtherOk': WHATEVER THE INPUT: true; the input reads as it did. -/
def fnFurtherOkSpec : ChangeSpec := { name := "fnFurtherOk", fn := fun _ => fun
  | [d] => { results := [.lit (.bool true)], args := [d] }
  | _ => none }
def fnFurtherOkRow : OpenClaim := { program := "yteljcicdibbhdaa", sum := "e061db22380eac832db0811c56727f85c89cd602ce80c5046caa4a779658cc58", func := "loop.example/fairbooks/laws.FnFurtherOk", spec := "fnFurtherOk", unfollowed := true, recurses := true, apart := false }
def FnFurtherOkSaid : Prop := fnFurtherOkRow.holds Try.pinned (OpenSpec.ofChange fnFurtherOkSpec)

/-- ITS FALSE NEIGHBOUR: 'it returns false'. Refute it at one input. -/
def fnFurtherOkWrong : ChangeSpec := { name := "fnFurtherOk", fn := fun _ => fun
  | [d] => { results := [.lit (.bool false)], args := [d] }
  | _ => none }
def FnFurtherOkWrongFalsely : Prop := fnFurtherOkRow.holds Try.pinned (OpenSpec.ofChange fnFurtherOkWrong)

/-- 'laws.FnLeastBrings': WHATEVER THE INPUT: true; the input reads as it did. -/
def fnLeastBringsSpec : ChangeSpec := { name := "fnLeastBrings", fn := fun _ => fun
  | [d] => { results := [.lit (.bool true)], args := [d] }
  | _ => none }
def fnLeastBringsRow : OpenClaim := { program := "yteljcicdibbhdaa", sum := "e061db22380eac832db0811c56727f85c89cd602ce80c5046caa4a779658cc58", func := "loop.example/fairbooks/laws.FnLeastBrings", spec := "fnLeastBrings", unfollowed := true, recurses := true, apart := false }
def FnLeastBringsSaid : Prop := fnLeastBringsRow.holds Try.pinned (OpenSpec.ofChange fnLeastBringsSpec)

/-- ITS FALSE NEIGHBOUR: 'it returns false'. Refute it at one input. -/
def fnLeastBringsWrong : ChangeSpec := { name := "fnLeastBrings", fn := fun _ => fun
  | [d] => { results := [.lit (.bool false)], args := [d] }
  | _ => none }
def FnLeastBringsWrongFalsely : Prop := fnLeastBringsRow.holds Try.pinned (OpenSpec.ofChange fnLeastBringsWrong)

/-- 'laws.FnEventGamble': WHATEVER THE INPUT: true; the input reads as it did. -/
def fnEventGambleSpec : ChangeSpec := { name := "fnEventGamble", fn := fun _ => fun
  | [d] => { results := [.lit (.bool true)], args := [d] }
  | _ => none }
def fnEventGambleRow : OpenClaim := { program := "yteljcicdibbhdaa", sum := "e061db22380eac832db0811c56727f85c89cd602ce80c5046caa4a779658cc58", func := "loop.example/fairbooks/laws.FnEventGamble", spec := "fnEventGamble", unfollowed := true, recurses := true, apart := false }
def FnEventGambleSaid : Prop := fnEventGambleRow.holds Try.pinned (OpenSpec.ofChange fnEventGambleSpec)

/-- ITS FALSE NEIGHBOUR: 'it returns false'. Refute it at one input. -/
def fnEventGambleWrong : ChangeSpec := { name := "fnEventGamble", fn := fun _ => fun
  | [d] => { results := [.lit (.bool false)], args := [d] }
  | _ => none }
def FnEventGambleWrongFalsely : Prop := fnEventGambleRow.holds Try.pinned (OpenSpec.ofChange fnEventGambleWrong)

/-- 'laws.FnExactLeastOn': WHATEVER THE INPUT: true; the input reads as it did. -/
def fnExactLeastOnSpec : ChangeSpec := { name := "fnExactLeastOn", fn := fun _ => fun
  | [d1, d2, d3] => { results := [.lit (.bool true)], args := [d1, d2, d3] }
  | _ => none }
def fnExactLeastOnRow : OpenClaim := { program := "yteljcicdibbhdaa", sum := "e061db22380eac832db0811c56727f85c89cd602ce80c5046caa4a779658cc58", func := "loop.example/fairbooks/laws.FnExactLeastOn", spec := "fnExactLeastOn", unfollowed := true, recurses := true, apart := false }
def FnExactLeastOnSaid : Prop := fnExactLeastOnRow.holds Try.pinned (OpenSpec.ofChange fnExactLeastOnSpec)

/-- ITS FALSE NEIGHBOUR: 'it returns false'. Refute it at one input. -/
def fnExactLeastOnWrong : ChangeSpec := { name := "fnExactLeastOn", fn := fun _ => fun
  | [d1, d2, d3] => { results := [.lit (.bool false)], args := [d1, d2, d3] }
  | _ => none }
def FnExactLeastOnWrongFalsely : Prop := fnExactLeastOnRow.holds Try.pinned (OpenSpec.ofChange fnExactLeastOnWrong)

/-- 'laws.FnExactMostOn': WHATEVER THE INPUT: true; the input reads as it did. -/
def fnExactMostOnSpec : ChangeSpec := { name := "fnExactMostOn", fn := fun _ => fun
  | [d1, d2, d3] => { results := [.lit (.bool true)], args := [d1, d2, d3] }
  | _ => none }
def fnExactMostOnRow : OpenClaim := { program := "yteljcicdibbhdaa", sum := "e061db22380eac832db0811c56727f85c89cd602ce80c5046caa4a779658cc58", func := "loop.example/fairbooks/laws.FnExactMostOn", spec := "fnExactMostOn", unfollowed := true, recurses := true, apart := false }
def FnExactMostOnSaid : Prop := fnExactMostOnRow.holds Try.pinned (OpenSpec.ofChange fnExactMostOnSpec)

/-- ITS FALSE NEIGHBOUR: 'it returns false'. Refute it at one input. -/
def fnExactMostOnWrong : ChangeSpec := { name := "fnExactMostOn", fn := fun _ => fun
  | [d1, d2, d3] => { results := [.lit (.bool false)], args := [d1, d2, d3] }
  | _ => none }
def FnExactMostOnWrongFalsely : Prop := fnExactMostOnRow.holds Try.pinned (OpenSpec.ofChange fnExactMostOnWrong)

/-- 'laws.FnExactPinnedOk': WHATEVER THE INPUT: true; the input reads as it did. -/
def fnExactPinnedOkSpec : ChangeSpec := { name := "fnExactPinnedOk", fn := fun _ => fun
  | [d1, d2, d3] => { results := [.lit (.bool true)], args := [d1, d2, d3] }
  | _ => none }
def fnExactPinnedOkRow : OpenClaim := { program := "yteljcicdibbhdaa", sum := "e061db22380eac832db0811c56727f85c89cd602ce80c5046caa4a779658cc58", func := "loop.example/fairbooks/laws.FnExactPinnedOk", spec := "fnExactPinnedOk", unfollowed := true, recurses := true, apart := false }
def FnExactPinnedOkSaid : Prop := fnExactPinnedOkRow.holds Try.pinned (OpenSpec.ofChange fnExactPinnedOkSpec)

/-- ITS FALSE NEIGHBOUR: 'it returns false'. Refute it at one input. -/
def fnExactPinnedOkWrong : ChangeSpec := { name := "fnExactPinnedOk", fn := fun _ => fun
  | [d1, d2, d3] => { results := [.lit (.bool false)], args := [d1, d2, d3] }
  | _ => none }
def FnExactPinnedOkWrongFalsely : Prop := fnExactPinnedOkRow.holds Try.pinned (OpenSpec.ofChange fnExactPinnedOkWrong)

/-- 'laws.FnExactFurtherOk': WHATEVER THE INPUT: true; the input reads as it did. -/
def fnExactFurtherOkSpec : ChangeSpec := { name := "fnExactFurtherOk", fn := fun _ => fun
  | [d1, d2, d3] => { results := [.lit (.bool true)], args := [d1, d2, d3] }
  | _ => none }
def fnExactFurtherOkRow : OpenClaim := { program := "yteljcicdibbhdaa", sum := "e061db22380eac832db0811c56727f85c89cd602ce80c5046caa4a779658cc58", func := "loop.example/fairbooks/laws.FnExactFurtherOk", spec := "fnExactFurtherOk", unfollowed := true, recurses := true, apart := false }
def FnExactFurtherOkSaid : Prop := fnExactFurtherOkRow.holds Try.pinned (OpenSpec.ofChange fnExactFurtherOkSpec)

/-- ITS FALSE NEIGHBOUR: 'it returns false'. Refute it at one input. -/
def fnExactFurtherOkWrong : ChangeSpec := { name := "fnExactFurtherOk", fn := fun _ => fun
  | [d1, d2, d3] => { results := [.lit (.bool false)], args := [d1, d2, d3] }
  | _ => none }
def FnExactFurtherOkWrongFalsely : Prop := fnExactFurtherOkRow.holds Try.pinned (OpenSpec.ofChange fnExactFurtherOkWrong)

/-- 'laws.FnExactLeastBrings': WHATEVER THE INPUT: true; the input reads as it did. -/
def fnExactLeastBringsSpec : ChangeSpec := { name := "fnExactLeastBrings", fn := fun _ => fun
  | [d1, d2, d3] => { results := [.lit (.bool true)], args := [d1, d2, d3] }
  | _ => none }
def fnExactLeastBringsRow : OpenClaim := { program := "yteljcicdibbhdaa", sum := "e061db22380eac832db0811c56727f85c89cd602ce80c5046caa4a779658cc58", func := "loop.example/fairbooks/laws.FnExactLeastBrings", spec := "fnExactLeastBrings", unfollowed := true, recurses := true, apart := false }
def FnExactLeastBringsSaid : Prop := fnExactLeastBringsRow.holds Try.pinned (OpenSpec.ofChange fnExactLeastBringsSpec)

/-- ITS FALSE NEIGHBOUR: 'it returns false'. Refute it at one input. -/
def fnExactLeastBringsWrong : ChangeSpec := { name := "fnExactLeastBrings", fn := fun _ => fun
  | [d1, d2, d3] => { results := [.lit (.bool false)], args := [d1, d2, d3] }
  | _ => none }
def FnExactLeastBringsWrongFalsely : Prop := fnExactLeastBringsRow.holds Try.pinned (OpenSpec.ofChange fnExactLeastBringsWrong)

/-- 'laws.FnTableBook': WHATEVER THE INPUT: true; the input reads as it did. -/
def fnTableBookSpec : ChangeSpec := { name := "fnTableBook", fn := fun _ => fun
  | [d1, d2] => { results := [.lit (.bool true)], args := [d1, d2] }
  | _ => none }
def fnTableBookRow : OpenClaim := { program := "yteljcicdibbhdaa", sum := "e061db22380eac832db0811c56727f85c89cd602ce80c5046caa4a779658cc58", func := "loop.example/fairbooks/laws.FnTableBook", spec := "fnTableBook", unfollowed := true, recurses := true, apart := false }
def FnTableBookSaid : Prop := fnTableBookRow.holds Try.pinned (OpenSpec.ofChange fnTableBookSpec)

/-- ITS FALSE NEIGHBOUR: 'it returns false'. Refute it at one input. -/
def fnTableBookWrong : ChangeSpec := { name := "fnTableBook", fn := fun _ => fun
  | [d1, d2] => { results := [.lit (.bool false)], args := [d1, d2] }
  | _ => none }
def FnTableBookWrongFalsely : Prop := fnTableBookRow.holds Try.pinned (OpenSpec.ofChange fnTableBookWrong)

/- THE SECOND FORM. 'bulk': how many values and letters a reading holds, each counted each time it is reached (what is shared counts as often as it is met; a slice's spare places count too). A statement '..UptoSaid' is the law's where the arguments, and the package variables that the reading takes, are together of bulk at most 1048576: NARROWER than '..Said'. Prove '..Said' where nothing that the law and all that it calls make is longer than what came in: it says more and counts as full. Else prove '..UptoSaid'. A law counts once. -/
mutual
def uptoBulk {H : Type} : DataW H → Nat
  | .lit (.string bytes) => bytes.length + 1
  | .lit _ => 1
  | .nil => 1
  | .ptr d => uptoBulk d + 1
  | .slice elems spare => uptoBulkAll elems + uptoBulkAll spare + 1
  | .agg parts => uptoBulkAll parts + 1
  | .iface _ d => uptoBulk d + 1
  | .map entries => uptoBulkEntries entries + 1
  | .held _ => 1
def uptoBulkAll {H : Type} : List (DataW H) → Nat
  | [] => 0
  | d :: r => uptoBulk d + uptoBulkAll r
def uptoBulkEntries {H : Type} : List (Lit × DataW H) → Nat
  | [] => 0
  | x :: r => uptoBulkEntry x + uptoBulkEntries r
def uptoBulkEntry {H : Type} : Lit × DataW H → Nat
  | (.string bytes, d) => bytes.length + uptoBulk d + 1
  | (_, d) => uptoBulk d + 1
 end
def uptoSmall : (H : Type) → List (DataW H) → Bool := fun _ ds => decide (uptoBulkAll ds ≤ 1048576)
def OpenSpec.upto (s : _root_.Go.ChangeSpec) : _root_.Go.OpenSpec := { _root_.Go.OpenSpec.ofChange s with cond := some uptoSmall }

/-- 'laws.FnLeastOn', WHERE WHAT IT READS IS OF BULK AT MOST 1048576: true; the input reads as it did. -/
def fnLeastOnUptoRow : OpenClaim := { program := "yteljcicdibbhdaa", sum := "e061db22380eac832db0811c56727f85c89cd602ce80c5046caa4a779658cc58", func := "loop.example/fairbooks/laws.FnLeastOn", spec := "fnLeastOn", unfollowed := true, recurses := true, apart := false, narrowed := true }
def FnLeastOnUptoSaid : Prop := fnLeastOnUptoRow.holds Try.pinned (OpenSpec.upto fnLeastOnSpec)

/-- 'laws.FnMostOn', WHERE WHAT IT READS IS OF BULK AT MOST 1048576: true; the input reads as it did. -/
def fnMostOnUptoRow : OpenClaim := { program := "yteljcicdibbhdaa", sum := "e061db22380eac832db0811c56727f85c89cd602ce80c5046caa4a779658cc58", func := "loop.example/fairbooks/laws.FnMostOn", spec := "fnMostOn", unfollowed := true, recurses := true, apart := false, narrowed := true }
def FnMostOnUptoSaid : Prop := fnMostOnUptoRow.holds Try.pinned (OpenSpec.upto fnMostOnSpec)

/-- 'laws.FnPinnedOk', WHERE WHAT IT READS IS OF BULK AT MOST 1048576: true; the input reads as it did. -/
def fnPinnedOkUptoRow : OpenClaim := { program := "yteljcicdibbhdaa", sum := "e061db22380eac832db0811c56727f85c89cd602ce80c5046caa4a779658cc58", func := "loop.example/fairbooks/laws.FnPinnedOk", spec := "fnPinnedOk", unfollowed := true, recurses := true, apart := false, narrowed := true }
def FnPinnedOkUptoSaid : Prop := fnPinnedOkUptoRow.holds Try.pinned (OpenSpec.upto fnPinnedOkSpec)

/-- 'laws.FnFurtherOk', WHERE WHAT IT READS IS OF BULK AT MOST 1048576: true; the input reads as it did. -/
def fnFurtherOkUptoRow : OpenClaim := { program := "yteljcicdibbhdaa", sum := "e061db22380eac832db0811c56727f85c89cd602ce80c5046caa4a779658cc58", func := "loop.example/fairbooks/laws.FnFurtherOk", spec := "fnFurtherOk", unfollowed := true, recurses := true, apart := false, narrowed := true }
def FnFurtherOkUptoSaid : Prop := fnFurtherOkUptoRow.holds Try.pinned (OpenSpec.upto fnFurtherOkSpec)

/-- 'laws.FnLeastBrings', WHERE WHAT IT READS IS OF BULK AT MOST 1048576: true; the input reads as it did. -/
def fnLeastBringsUptoRow : OpenClaim := { program := "yteljcicdibbhdaa", sum := "e061db22380eac832db0811c56727f85c89cd602ce80c5046caa4a779658cc58", func := "loop.example/fairbooks/laws.FnLeastBrings", spec := "fnLeastBrings", unfollowed := true, recurses := true, apart := false, narrowed := true }
def FnLeastBringsUptoSaid : Prop := fnLeastBringsUptoRow.holds Try.pinned (OpenSpec.upto fnLeastBringsSpec)

/-- 'laws.FnEventGamble', WHERE WHAT IT READS IS OF BULK AT MOST 1048576: true; the input reads as it did. -/
def fnEventGambleUptoRow : OpenClaim := { program := "yteljcicdibbhdaa", sum := "e061db22380eac832db0811c56727f85c89cd602ce80c5046caa4a779658cc58", func := "loop.example/fairbooks/laws.FnEventGamble", spec := "fnEventGamble", unfollowed := true, recurses := true, apart := false, narrowed := true }
def FnEventGambleUptoSaid : Prop := fnEventGambleUptoRow.holds Try.pinned (OpenSpec.upto fnEventGambleSpec)

/-- 'laws.FnExactLeastOn', WHERE WHAT IT READS IS OF BULK AT MOST 1048576: true; the input reads as it did. -/
def fnExactLeastOnUptoRow : OpenClaim := { program := "yteljcicdibbhdaa", sum := "e061db22380eac832db0811c56727f85c89cd602ce80c5046caa4a779658cc58", func := "loop.example/fairbooks/laws.FnExactLeastOn", spec := "fnExactLeastOn", unfollowed := true, recurses := true, apart := false, narrowed := true }
def FnExactLeastOnUptoSaid : Prop := fnExactLeastOnUptoRow.holds Try.pinned (OpenSpec.upto fnExactLeastOnSpec)

/-- 'laws.FnExactMostOn', WHERE WHAT IT READS IS OF BULK AT MOST 1048576: true; the input reads as it did. -/
def fnExactMostOnUptoRow : OpenClaim := { program := "yteljcicdibbhdaa", sum := "e061db22380eac832db0811c56727f85c89cd602ce80c5046caa4a779658cc58", func := "loop.example/fairbooks/laws.FnExactMostOn", spec := "fnExactMostOn", unfollowed := true, recurses := true, apart := false, narrowed := true }
def FnExactMostOnUptoSaid : Prop := fnExactMostOnUptoRow.holds Try.pinned (OpenSpec.upto fnExactMostOnSpec)

/-- 'laws.FnExactPinnedOk', WHERE WHAT IT READS IS OF BULK AT MOST 1048576: true; the input reads as it did. -/
def fnExactPinnedOkUptoRow : OpenClaim := { program := "yteljcicdibbhdaa", sum := "e061db22380eac832db0811c56727f85c89cd602ce80c5046caa4a779658cc58", func := "loop.example/fairbooks/laws.FnExactPinnedOk", spec := "fnExactPinnedOk", unfollowed := true, recurses := true, apart := false, narrowed := true }
def FnExactPinnedOkUptoSaid : Prop := fnExactPinnedOkUptoRow.holds Try.pinned (OpenSpec.upto fnExactPinnedOkSpec)

/-- 'laws.FnExactFurtherOk', WHERE WHAT IT READS IS OF BULK AT MOST 1048576: true; the input reads as it did. -/
def fnExactFurtherOkUptoRow : OpenClaim := { program := "yteljcicdibbhdaa", sum := "e061db22380eac832db0811c56727f85c89cd602ce80c5046caa4a779658cc58", func := "loop.example/fairbooks/laws.FnExactFurtherOk", spec := "fnExactFurtherOk", unfollowed := true, recurses := true, apart := false, narrowed := true }
def FnExactFurtherOkUptoSaid : Prop := fnExactFurtherOkUptoRow.holds Try.pinned (OpenSpec.upto fnExactFurtherOkSpec)

/-- 'laws.FnExactLeastBrings', WHERE WHAT IT READS IS OF BULK AT MOST 1048576: true; the input reads as it did. -/
def fnExactLeastBringsUptoRow : OpenClaim := { program := "yteljcicdibbhdaa", sum := "e061db22380eac832db0811c56727f85c89cd602ce80c5046caa4a779658cc58", func := "loop.example/fairbooks/laws.FnExactLeastBrings", spec := "fnExactLeastBrings", unfollowed := true, recurses := true, apart := false, narrowed := true }
def FnExactLeastBringsUptoSaid : Prop := fnExactLeastBringsUptoRow.holds Try.pinned (OpenSpec.upto fnExactLeastBringsSpec)

/-- 'laws.FnTableBook', WHERE WHAT IT READS IS OF BULK AT MOST 1048576: true; the input reads as it did. -/
def fnTableBookUptoRow : OpenClaim := { program := "yteljcicdibbhdaa", sum := "e061db22380eac832db0811c56727f85c89cd602ce80c5046caa4a779658cc58", func := "loop.example/fairbooks/laws.FnTableBook", spec := "fnTableBook", unfollowed := true, recurses := true, apart := false, narrowed := true }
def FnTableBookUptoSaid : Prop := fnTableBookUptoRow.holds Try.pinned (OpenSpec.upto fnTableBookSpec)

end Rows
end Go.Proofs.Yteljcicdibbhdaa
