/-
  No cell of these rows narrows 'for every input' (looked for: loops, veiled, ifaces, maps, wideKeys, modest, calm, conditions, laid).
  DERIVED. THE GIVEN ROWS OF THIS SEAT. 8 by the template 'for every input the law returns true; each argument reads behind the call as it read before'; 0 by the template 'total and deterministic' (their statements: YtnleljofoljdkaaTotals.lean).
  GIVEN WITH THE SEED: the statements are not yours to turn. If you find one false, say at which input.
  Laid BY PROGRAM, IN A SANDBOX (cutbox-rows.mjs): the forced cells as the released guide's own fill.sh prints them over the translation f4261997fc310ca4… (all of the seat's roots in one cut). By AI agents, Wed Nov 11 2026. No macro, syntax, notation, axiom, sorry.
-/
import Derived.Test.YtnleljofoljdkaaChecked
import GoSem.Claim
import GoSem.ClaimJoined
import GoSem.ClaimMapViews
import Derived.JoinedTies
import Derived.KernelRfl
namespace Go.Proofs.Ytnleljofoljdkaa
/- THE CELL 'sum', in the pinned program and in every row, IS THE sha256 OF THE DUMP (.gsa) THAT YtnleljofoljdkaaProg.lean LOADS. Nothing in Lean hashes anything: it is a label: what it is worth is what the hold of that sum in a sandbox is worth. -/
noncomputable def Try.pinned : Pinned := { name := "ytnleljofoljdkaa", sum := "f4261997fc310ca4db42c260f42bd116b446b66d1517a3a362fc32786759db05", checked := Try.checked }
namespace Rows
def none {H : Type} : Left H := { results := [], args := [] }

/-- 'laws.FnEventOk': WHATEVER THE INPUT: true; the input reads as it did. -/
def fnEventOkSpec : ChangeSpec := { name := "fnEventOk", fn := fun _ => fun
  | [d] => { results := [.lit (.bool true)], args := [d] }
  | _ => none }
def fnEventOkRow : OpenClaim := { program := "ytnleljofoljdkaa", sum := "f4261997fc310ca4db42c260f42bd116b446b66d1517a3a362fc32786759db05", func := "loop.example/fairbooks/laws.FnEventOk", spec := "fnEventOk", apart := false }
def FnEventOkSaid : Prop := fnEventOkRow.holds Try.pinned (OpenSpec.ofChange fnEventOkSpec)

/-- ITS FALSE NEIGHBOUR: 'it returns false'. Refute it at one input. -/
def fnEventOkWrong : ChangeSpec := { name := "fnEventOk", fn := fun _ => fun
  | [d] => { results := [.lit (.bool false)], args := [d] }
  | _ => none }
def FnEventOkWrongFalsely : Prop := fnEventOkRow.holds Try.pinned (OpenSpec.ofChange fnEventOkWrong)

/-- 'laws.FnNotEvent': WHATEVER THE INPUT: true; the input reads as it did. -/
def fnNotEventSpec : ChangeSpec := { name := "fnNotEvent", fn := fun _ => fun
  | [d] => { results := [.lit (.bool true)], args := [d] }
  | _ => none }
def fnNotEventRow : OpenClaim := { program := "ytnleljofoljdkaa", sum := "f4261997fc310ca4db42c260f42bd116b446b66d1517a3a362fc32786759db05", func := "loop.example/fairbooks/laws.FnNotEvent", spec := "fnNotEvent", apart := false }
def FnNotEventSaid : Prop := fnNotEventRow.holds Try.pinned (OpenSpec.ofChange fnNotEventSpec)

/-- ITS FALSE NEIGHBOUR: 'it returns false'. Refute it at one input. -/
def fnNotEventWrong : ChangeSpec := { name := "fnNotEvent", fn := fun _ => fun
  | [d] => { results := [.lit (.bool false)], args := [d] }
  | _ => none }
def FnNotEventWrongFalsely : Prop := fnNotEventRow.holds Try.pinned (OpenSpec.ofChange fnNotEventWrong)

/-- 'laws.FnImpliesOk': WHATEVER THE INPUT: true; the input reads as it did. -/
def fnImpliesOkSpec : ChangeSpec := { name := "fnImpliesOk", fn := fun _ => fun
  | [d] => { results := [.lit (.bool true)], args := [d] }
  | _ => none }
def fnImpliesOkRow : OpenClaim := { program := "ytnleljofoljdkaa", sum := "f4261997fc310ca4db42c260f42bd116b446b66d1517a3a362fc32786759db05", func := "loop.example/fairbooks/laws.FnImpliesOk", spec := "fnImpliesOk", apart := false }
def FnImpliesOkSaid : Prop := fnImpliesOkRow.holds Try.pinned (OpenSpec.ofChange fnImpliesOkSpec)

/-- ITS FALSE NEIGHBOUR: 'it returns false'. Refute it at one input. -/
def fnImpliesOkWrong : ChangeSpec := { name := "fnImpliesOk", fn := fun _ => fun
  | [d] => { results := [.lit (.bool false)], args := [d] }
  | _ => none }
def FnImpliesOkWrongFalsely : Prop := fnImpliesOkRow.holds Try.pinned (OpenSpec.ofChange fnImpliesOkWrong)

/-- 'laws.FnApartOk': WHATEVER THE INPUT: true; the input reads as it did. -/
def fnApartOkSpec : ChangeSpec := { name := "fnApartOk", fn := fun _ => fun
  | [d] => { results := [.lit (.bool true)], args := [d] }
  | _ => none }
def fnApartOkRow : OpenClaim := { program := "ytnleljofoljdkaa", sum := "f4261997fc310ca4db42c260f42bd116b446b66d1517a3a362fc32786759db05", func := "loop.example/fairbooks/laws.FnApartOk", spec := "fnApartOk", apart := false }
def FnApartOkSaid : Prop := fnApartOkRow.holds Try.pinned (OpenSpec.ofChange fnApartOkSpec)

/-- ITS FALSE NEIGHBOUR: 'it returns false'. Refute it at one input. -/
def fnApartOkWrong : ChangeSpec := { name := "fnApartOk", fn := fun _ => fun
  | [d] => { results := [.lit (.bool false)], args := [d] }
  | _ => none }
def FnApartOkWrongFalsely : Prop := fnApartOkRow.holds Try.pinned (OpenSpec.ofChange fnApartOkWrong)

/-- 'laws.FnExactEventOk': WHATEVER THE INPUT: true; the input reads as it did. -/
def fnExactEventOkSpec : ChangeSpec := { name := "fnExactEventOk", fn := fun _ => fun
  | [d1, d2] => { results := [.lit (.bool true)], args := [d1, d2] }
  | _ => none }
def fnExactEventOkRow : OpenClaim := { program := "ytnleljofoljdkaa", sum := "f4261997fc310ca4db42c260f42bd116b446b66d1517a3a362fc32786759db05", func := "loop.example/fairbooks/laws.FnExactEventOk", spec := "fnExactEventOk", apart := false }
def FnExactEventOkSaid : Prop := fnExactEventOkRow.holds Try.pinned (OpenSpec.ofChange fnExactEventOkSpec)

/-- ITS FALSE NEIGHBOUR: 'it returns false'. Refute it at one input. -/
def fnExactEventOkWrong : ChangeSpec := { name := "fnExactEventOk", fn := fun _ => fun
  | [d1, d2] => { results := [.lit (.bool false)], args := [d1, d2] }
  | _ => none }
def FnExactEventOkWrongFalsely : Prop := fnExactEventOkRow.holds Try.pinned (OpenSpec.ofChange fnExactEventOkWrong)

/-- 'laws.FnExactNotEvent': WHATEVER THE INPUT: true; the input reads as it did. -/
def fnExactNotEventSpec : ChangeSpec := { name := "fnExactNotEvent", fn := fun _ => fun
  | [d1, d2] => { results := [.lit (.bool true)], args := [d1, d2] }
  | _ => none }
def fnExactNotEventRow : OpenClaim := { program := "ytnleljofoljdkaa", sum := "f4261997fc310ca4db42c260f42bd116b446b66d1517a3a362fc32786759db05", func := "loop.example/fairbooks/laws.FnExactNotEvent", spec := "fnExactNotEvent", apart := false }
def FnExactNotEventSaid : Prop := fnExactNotEventRow.holds Try.pinned (OpenSpec.ofChange fnExactNotEventSpec)

/-- ITS FALSE NEIGHBOUR: 'it returns false'. Refute it at one input. -/
def fnExactNotEventWrong : ChangeSpec := { name := "fnExactNotEvent", fn := fun _ => fun
  | [d1, d2] => { results := [.lit (.bool false)], args := [d1, d2] }
  | _ => none }
def FnExactNotEventWrongFalsely : Prop := fnExactNotEventRow.holds Try.pinned (OpenSpec.ofChange fnExactNotEventWrong)

/-- 'laws.FnExactImpliesOk': WHATEVER THE INPUT: true; the input reads as it did. -/
def fnExactImpliesOkSpec : ChangeSpec := { name := "fnExactImpliesOk", fn := fun _ => fun
  | [d1, d2, d3] => { results := [.lit (.bool true)], args := [d1, d2, d3] }
  | _ => none }
def fnExactImpliesOkRow : OpenClaim := { program := "ytnleljofoljdkaa", sum := "f4261997fc310ca4db42c260f42bd116b446b66d1517a3a362fc32786759db05", func := "loop.example/fairbooks/laws.FnExactImpliesOk", spec := "fnExactImpliesOk", apart := false }
def FnExactImpliesOkSaid : Prop := fnExactImpliesOkRow.holds Try.pinned (OpenSpec.ofChange fnExactImpliesOkSpec)

/-- ITS FALSE NEIGHBOUR: 'it returns false'. Refute it at one input. -/
def fnExactImpliesOkWrong : ChangeSpec := { name := "fnExactImpliesOk", fn := fun _ => fun
  | [d1, d2, d3] => { results := [.lit (.bool false)], args := [d1, d2, d3] }
  | _ => none }
def FnExactImpliesOkWrongFalsely : Prop := fnExactImpliesOkRow.holds Try.pinned (OpenSpec.ofChange fnExactImpliesOkWrong)

/-- 'laws.FnExactApartOk': WHATEVER THE INPUT: true; the input reads as it did. -/
def fnExactApartOkSpec : ChangeSpec := { name := "fnExactApartOk", fn := fun _ => fun
  | [d1, d2, d3] => { results := [.lit (.bool true)], args := [d1, d2, d3] }
  | _ => none }
def fnExactApartOkRow : OpenClaim := { program := "ytnleljofoljdkaa", sum := "f4261997fc310ca4db42c260f42bd116b446b66d1517a3a362fc32786759db05", func := "loop.example/fairbooks/laws.FnExactApartOk", spec := "fnExactApartOk", apart := false }
def FnExactApartOkSaid : Prop := fnExactApartOkRow.holds Try.pinned (OpenSpec.ofChange fnExactApartOkSpec)

/-- ITS FALSE NEIGHBOUR: 'it returns false'. Refute it at one input. -/
def fnExactApartOkWrong : ChangeSpec := { name := "fnExactApartOk", fn := fun _ => fun
  | [d1, d2, d3] => { results := [.lit (.bool false)], args := [d1, d2, d3] }
  | _ => none }
def FnExactApartOkWrongFalsely : Prop := fnExactApartOkRow.holds Try.pinned (OpenSpec.ofChange fnExactApartOkWrong)

/- THE SECOND FORM. 'bulk': how many values and letters a reading holds, each counted each time it is reached (what is shared counts as often as it is met; a slice's spare places count too). A statement '..UptoSaid' is the law's where the arguments, and the package variables that the reading takes, are together of bulk at most 1048576: NARROWER than '..Said'. Prove '..Said' where nothing that the law and all that it calls make is longer than what came in: it says more and counts as full. Else prove '..UptoSaid'. A law counts once. -/
mutual
def uptoBulk {H : Type} : DataW H → Nat
  | .lit (.string bytes) => bytes.length + 1
  | .lit _ => 1
  | .nil => 1
  | .ptr d => uptoBulk d + 1
  | .slice elems spare => uptoBulkAll elems + uptoBulkAll spare + 1
  | .agg parts => uptoBulkAll parts + 1
  | .iface _ d => uptoBulk d + 1
  | .map entries => uptoBulkEntries entries + 1
  | .held _ => 1
def uptoBulkAll {H : Type} : List (DataW H) → Nat
  | [] => 0
  | d :: r => uptoBulk d + uptoBulkAll r
def uptoBulkEntries {H : Type} : List (Lit × DataW H) → Nat
  | [] => 0
  | x :: r => uptoBulkEntry x + uptoBulkEntries r
def uptoBulkEntry {H : Type} : Lit × DataW H → Nat
  | (.string bytes, d) => bytes.length + uptoBulk d + 1
  | (_, d) => uptoBulk d + 1
 end
def uptoSmall : (H : Type) → List (DataW H) → Bool := fun _ ds => decide (uptoBulkAll ds ≤ 1048576)
def OpenSpec.upto (s : _root_.Go.ChangeSpec) : _root_.Go.OpenSpec := { _root_.Go.OpenSpec.ofChange s with cond := some uptoSmall }

/-- 'laws.FnEventOk', WHERE WHAT IT READS IS OF BULK AT MOST 1048576: true; the input reads as it did. -/
def fnEventOkUptoRow : OpenClaim := { program := "ytnleljofoljdkaa", sum := "f4261997fc310ca4db42c260f42bd116b446b66d1517a3a362fc32786759db05", func := "loop.example/fairbooks/laws.FnEventOk", spec := "fnEventOk", apart := false, narrowed := true }
def FnEventOkUptoSaid : Prop := fnEventOkUptoRow.holds Try.pinned (OpenSpec.upto fnEventOkSpec)

/-- 'laws.FnNotEvent', WHERE WHAT IT READS IS OF BULK AT MOST 1048576: true; the input reads as it did. -/
def fnNotEventUptoRow : OpenClaim := { program := "ytnleljofoljdkaa", sum := "f4261997fc310ca4db42c260f42bd116b446b66d1517a3a362fc32786759db05", func := "loop.example/fairbooks/laws.FnNotEvent", spec := "fnNotEvent", apart := false, narrowed := true }
def FnNotEventUptoSaid : Prop := fnNotEventUptoRow.holds Try.pinned (OpenSpec.upto fnNotEventSpec)

/-- 'laws.FnImpliesOk', WHERE WHAT IT READS IS OF BULK AT MOST 1048576: true; the input reads as it did. -/
def fnImpliesOkUptoRow : OpenClaim := { program := "ytnleljofoljdkaa", sum := "f4261997fc310ca4db42c260f42bd116b446b66d1517a3a362fc32786759db05", func := "loop.example/fairbooks/laws.FnImpliesOk", spec := "fnImpliesOk", apart := false, narrowed := true }
def FnImpliesOkUptoSaid : Prop := fnImpliesOkUptoRow.holds Try.pinned (OpenSpec.upto fnImpliesOkSpec)

/-- 'laws.FnApartOk', WHERE WHAT IT READS IS OF BULK AT MOST 1048576: true; the input reads as it did. -/
def fnApartOkUptoRow : OpenClaim := { program := "ytnleljofoljdkaa", sum := "f4261997fc310ca4db42c260f42bd116b446b66d1517a3a362fc32786759db05", func := "loop.example/fairbooks/laws.FnApartOk", spec := "fnApartOk", apart := false, narrowed := true }
def FnApartOkUptoSaid : Prop := fnApartOkUptoRow.holds Try.pinned (OpenSpec.upto fnApartOkSpec)

/-- 'laws.FnExactEventOk', WHERE WHAT IT READS IS OF BULK AT MOST 1048576: true; the input reads as it did. -/
def fnExactEventOkUptoRow : OpenClaim := { program := "ytnleljofoljdkaa", sum := "f4261997fc310ca4db42c260f42bd116b446b66d1517a3a362fc32786759db05", func := "loop.example/fairbooks/laws.FnExactEventOk", spec := "fnExactEventOk", apart := false, narrowed := true }
def FnExactEventOkUptoSaid : Prop := fnExactEventOkUptoRow.holds Try.pinned (OpenSpec.upto fnExactEventOkSpec)

/-- 'laws.FnExactNotEvent', WHERE WHAT IT READS IS OF BULK AT MOST 1048576: true; the input reads as it did. -/
def fnExactNotEventUptoRow : OpenClaim := { program := "ytnleljofoljdkaa", sum := "f4261997fc310ca4db42c260f42bd116b446b66d1517a3a362fc32786759db05", func := "loop.example/fairbooks/laws.FnExactNotEvent", spec := "fnExactNotEvent", apart := false, narrowed := true }
def FnExactNotEventUptoSaid : Prop := fnExactNotEventUptoRow.holds Try.pinned (OpenSpec.upto fnExactNotEventSpec)

/-- 'laws.FnExactImpliesOk', WHERE WHAT IT READS IS OF BULK AT MOST 1048576: true; the input reads as it did. -/
def fnExactImpliesOkUptoRow : OpenClaim := { program := "ytnleljofoljdkaa", sum := "f4261997fc310ca4db42c260f42bd116b446b66d1517a3a362fc32786759db05", func := "loop.example/fairbooks/laws.FnExactImpliesOk", spec := "fnExactImpliesOk", apart := false, narrowed := true }
def FnExactImpliesOkUptoSaid : Prop := fnExactImpliesOkUptoRow.holds Try.pinned (OpenSpec.upto fnExactImpliesOkSpec)

/-- 'laws.FnExactApartOk', WHERE WHAT IT READS IS OF BULK AT MOST 1048576: true; the input reads as it did. -/
def fnExactApartOkUptoRow : OpenClaim := { program := "ytnleljofoljdkaa", sum := "f4261997fc310ca4db42c260f42bd116b446b66d1517a3a362fc32786759db05", func := "loop.example/fairbooks/laws.FnExactApartOk", spec := "fnExactApartOk", apart := false, narrowed := true }
def FnExactApartOkUptoSaid : Prop := fnExactApartOkUptoRow.holds Try.pinned (OpenSpec.upto fnExactApartOkSpec)

end Rows
end Go.Proofs.Ytnleljofoljdkaa
