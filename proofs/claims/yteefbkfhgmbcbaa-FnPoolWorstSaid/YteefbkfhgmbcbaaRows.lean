/-
  No cell of these rows narrows 'for every input' (looked for: loops, veiled, ifaces, maps, wideKeys, modest, calm, conditions, laid).
  DERIVED. THE GIVEN ROWS OF THIS SEAT. 11 by the template 'for every input the law returns true; each argument reads behind the call as it read before'; 0 by the template 'total and deterministic' (their statements: YteefbkfhgmbcbaaTotals.lean).
  GIVEN WITH THE SEED: the statements are not yours to turn. If you find one false, say at which input.
  Laid BY PROGRAM, IN A SANDBOX (cutbox-rows.mjs): the forced cells as the released guide's own fill.sh prints them over the translation 4ae9f91e1f8909eb… (all of the seat's roots in one cut). By AI agents, Wed Nov 11 2026. No macro, syntax, notation, axiom, sorry.
-/
import Derived.Test.YteefbkfhgmbcbaaChecked
import GoSem.Claim
import GoSem.ClaimJoined
import GoSem.ClaimMapViews
import Derived.JoinedTies
import Derived.KernelRfl
namespace Go.Proofs.Yteefbkfhgmbcbaa
/- THE CELL 'sum', in the pinned program and in every row, IS THE sha256 OF THE DUMP (.gsa) THAT YteefbkfhgmbcbaaProg.lean LOADS. Nothing in Lean hashes anything: it is a label: what it is worth is what the hold of that sum in a sandbox is worth. -/
noncomputable def Try.pinned : Pinned := { name := "yteefbkfhgmbcbaa", sum := "4ae9f91e1f8909eb2fc0b5e046f6dc0ea126e8192213f66536bee11cc31b205b", checked := Try.checked }
namespace Rows
def none {H : Type} : Left H := { results := [], args := [] }

/-- 'laws.FnTicketsOk': WHATEVER THE INPUT: true; the input reads as it did. -/
def fnTicketsOkSpec : ChangeSpec := { name := "fnTicketsOk", fn := fun _ => fun
  | [d] => { results := [.lit (.bool true)], args := [d] }
  | _ => none }
def fnTicketsOkRow : OpenClaim := { program := "yteefbkfhgmbcbaa", sum := "4ae9f91e1f8909eb2fc0b5e046f6dc0ea126e8192213f66536bee11cc31b205b", func := "loop.example/fairbooks/laws.FnTicketsOk", spec := "fnTicketsOk", apart := false }
def FnTicketsOkSaid : Prop := fnTicketsOkRow.holds Try.pinned (OpenSpec.ofChange fnTicketsOkSpec)

/-- ITS FALSE NEIGHBOUR: 'it returns false'. Refute it at one input. -/
def fnTicketsOkWrong : ChangeSpec := { name := "fnTicketsOk", fn := fun _ => fun
  | [d] => { results := [.lit (.bool false)], args := [d] }
  | _ => none }
def FnTicketsOkWrongFalsely : Prop := fnTicketsOkRow.holds Try.pinned (OpenSpec.ofChange fnTicketsOkWrong)

/-- 'laws.FnPoolOf': WHATEVER THE INPUT: true; the input reads as it did. -/
def fnPoolOfSpec : ChangeSpec := { name := "fnPoolOf", fn := fun _ => fun
  | [d] => { results := [.lit (.bool true)], args := [d] }
  | _ => none }
def fnPoolOfRow : OpenClaim := { program := "yteefbkfhgmbcbaa", sum := "4ae9f91e1f8909eb2fc0b5e046f6dc0ea126e8192213f66536bee11cc31b205b", func := "loop.example/fairbooks/laws.FnPoolOf", spec := "fnPoolOf", apart := false }
def FnPoolOfSaid : Prop := fnPoolOfRow.holds Try.pinned (OpenSpec.ofChange fnPoolOfSpec)

/-- ITS FALSE NEIGHBOUR: 'it returns false'. Refute it at one input. -/
def fnPoolOfWrong : ChangeSpec := { name := "fnPoolOf", fn := fun _ => fun
  | [d] => { results := [.lit (.bool false)], args := [d] }
  | _ => none }
def FnPoolOfWrongFalsely : Prop := fnPoolOfRow.holds Try.pinned (OpenSpec.ofChange fnPoolOfWrong)

/-- 'laws.FnPaidOn': WHATEVER THE INPUT: true; the input reads as it did. -/
def fnPaidOnSpec : ChangeSpec := { name := "fnPaidOn", fn := fun _ => fun
  | [d] => { results := [.lit (.bool true)], args := [d] }
  | _ => none }
def fnPaidOnRow : OpenClaim := { program := "yteefbkfhgmbcbaa", sum := "4ae9f91e1f8909eb2fc0b5e046f6dc0ea126e8192213f66536bee11cc31b205b", func := "loop.example/fairbooks/laws.FnPaidOn", spec := "fnPaidOn", apart := false }
def FnPaidOnSaid : Prop := fnPaidOnRow.holds Try.pinned (OpenSpec.ofChange fnPaidOnSpec)

/-- ITS FALSE NEIGHBOUR: 'it returns false'. Refute it at one input. -/
def fnPaidOnWrong : ChangeSpec := { name := "fnPaidOn", fn := fun _ => fun
  | [d] => { results := [.lit (.bool false)], args := [d] }
  | _ => none }
def FnPaidOnWrongFalsely : Prop := fnPaidOnRow.holds Try.pinned (OpenSpec.ofChange fnPaidOnWrong)

/-- 'laws.FnPaidOut': WHATEVER THE INPUT: true; the input reads as it did. -/
def fnPaidOutSpec : ChangeSpec := { name := "fnPaidOut", fn := fun _ => fun
  | [d] => { results := [.lit (.bool true)], args := [d] }
  | _ => none }
def fnPaidOutRow : OpenClaim := { program := "yteefbkfhgmbcbaa", sum := "4ae9f91e1f8909eb2fc0b5e046f6dc0ea126e8192213f66536bee11cc31b205b", func := "loop.example/fairbooks/laws.FnPaidOut", spec := "fnPaidOut", apart := false }
def FnPaidOutSaid : Prop := fnPaidOutRow.holds Try.pinned (OpenSpec.ofChange fnPaidOutSpec)

/-- ITS FALSE NEIGHBOUR: 'it returns false'. Refute it at one input. -/
def fnPaidOutWrong : ChangeSpec := { name := "fnPaidOut", fn := fun _ => fun
  | [d] => { results := [.lit (.bool false)], args := [d] }
  | _ => none }
def FnPaidOutWrongFalsely : Prop := fnPaidOutRow.holds Try.pinned (OpenSpec.ofChange fnPaidOutWrong)

/-- 'laws.FnTakenBy': WHATEVER THE INPUT: true; the input reads as it did. -/
def fnTakenBySpec : ChangeSpec := { name := "fnTakenBy", fn := fun _ => fun
  | [d] => { results := [.lit (.bool true)], args := [d] }
  | _ => none }
def fnTakenByRow : OpenClaim := { program := "yteefbkfhgmbcbaa", sum := "4ae9f91e1f8909eb2fc0b5e046f6dc0ea126e8192213f66536bee11cc31b205b", func := "loop.example/fairbooks/laws.FnTakenBy", spec := "fnTakenBy", apart := false }
def FnTakenBySaid : Prop := fnTakenByRow.holds Try.pinned (OpenSpec.ofChange fnTakenBySpec)

/-- ITS FALSE NEIGHBOUR: 'it returns false'. Refute it at one input. -/
def fnTakenByWrong : ChangeSpec := { name := "fnTakenBy", fn := fun _ => fun
  | [d] => { results := [.lit (.bool false)], args := [d] }
  | _ => none }
def FnTakenByWrongFalsely : Prop := fnTakenByRow.holds Try.pinned (OpenSpec.ofChange fnTakenByWrong)

/-- 'laws.FnPoolWorst': WHATEVER THE INPUT: true; the input reads as it did. -/
def fnPoolWorstSpec : ChangeSpec := { name := "fnPoolWorst", fn := fun _ => fun
  | [d] => { results := [.lit (.bool true)], args := [d] }
  | _ => none }
def fnPoolWorstRow : OpenClaim := { program := "yteefbkfhgmbcbaa", sum := "4ae9f91e1f8909eb2fc0b5e046f6dc0ea126e8192213f66536bee11cc31b205b", func := "loop.example/fairbooks/laws.FnPoolWorst", spec := "fnPoolWorst", unfollowed := true, recurses := true, apart := false }
def FnPoolWorstSaid : Prop := fnPoolWorstRow.holds Try.pinned (OpenSpec.ofChange fnPoolWorstSpec)

/-- ITS FALSE NEIGHBOUR: 'it returns false'. Refute it at one input. -/
def fnPoolWorstWrong : ChangeSpec := { name := "fnPoolWorst", fn := fun _ => fun
  | [d] => { results := [.lit (.bool false)], args := [d] }
  | _ => none }
def FnPoolWorstWrongFalsely : Prop := fnPoolWorstRow.holds Try.pinned (OpenSpec.ofChange fnPoolWorstWrong)

/-- 'laws.FnExactTicketsOk': WHATEVER THE INPUT: true; the input reads as it did. -/
def fnExactTicketsOkSpec : ChangeSpec := { name := "fnExactTicketsOk", fn := fun _ => fun
  | [d1, d2] => { results := [.lit (.bool true)], args := [d1, d2] }
  | _ => none }
def fnExactTicketsOkRow : OpenClaim := { program := "yteefbkfhgmbcbaa", sum := "4ae9f91e1f8909eb2fc0b5e046f6dc0ea126e8192213f66536bee11cc31b205b", func := "loop.example/fairbooks/laws.FnExactTicketsOk", spec := "fnExactTicketsOk", apart := false }
def FnExactTicketsOkSaid : Prop := fnExactTicketsOkRow.holds Try.pinned (OpenSpec.ofChange fnExactTicketsOkSpec)

/-- ITS FALSE NEIGHBOUR: 'it returns false'. Refute it at one input. -/
def fnExactTicketsOkWrong : ChangeSpec := { name := "fnExactTicketsOk", fn := fun _ => fun
  | [d1, d2] => { results := [.lit (.bool false)], args := [d1, d2] }
  | _ => none }
def FnExactTicketsOkWrongFalsely : Prop := fnExactTicketsOkRow.holds Try.pinned (OpenSpec.ofChange fnExactTicketsOkWrong)

/-- 'laws.FnExactPoolOf': WHATEVER THE INPUT: true; the input reads as it did. -/
def fnExactPoolOfSpec : ChangeSpec := { name := "fnExactPoolOf", fn := fun _ => fun
  | [d1, d2] => { results := [.lit (.bool true)], args := [d1, d2] }
  | _ => none }
def fnExactPoolOfRow : OpenClaim := { program := "yteefbkfhgmbcbaa", sum := "4ae9f91e1f8909eb2fc0b5e046f6dc0ea126e8192213f66536bee11cc31b205b", func := "loop.example/fairbooks/laws.FnExactPoolOf", spec := "fnExactPoolOf", apart := false }
def FnExactPoolOfSaid : Prop := fnExactPoolOfRow.holds Try.pinned (OpenSpec.ofChange fnExactPoolOfSpec)

/-- ITS FALSE NEIGHBOUR: 'it returns false'. Refute it at one input. -/
def fnExactPoolOfWrong : ChangeSpec := { name := "fnExactPoolOf", fn := fun _ => fun
  | [d1, d2] => { results := [.lit (.bool false)], args := [d1, d2] }
  | _ => none }
def FnExactPoolOfWrongFalsely : Prop := fnExactPoolOfRow.holds Try.pinned (OpenSpec.ofChange fnExactPoolOfWrong)

/-- 'laws.FnExactPaidOn': WHATEVER THE INPUT: true; the input reads as it did. -/
def fnExactPaidOnSpec : ChangeSpec := { name := "fnExactPaidOn", fn := fun _ => fun
  | [d1, d2] => { results := [.lit (.bool true)], args := [d1, d2] }
  | _ => none }
def fnExactPaidOnRow : OpenClaim := { program := "yteefbkfhgmbcbaa", sum := "4ae9f91e1f8909eb2fc0b5e046f6dc0ea126e8192213f66536bee11cc31b205b", func := "loop.example/fairbooks/laws.FnExactPaidOn", spec := "fnExactPaidOn", apart := false }
def FnExactPaidOnSaid : Prop := fnExactPaidOnRow.holds Try.pinned (OpenSpec.ofChange fnExactPaidOnSpec)

/-- ITS FALSE NEIGHBOUR: 'it returns false'. Refute it at one input. -/
def fnExactPaidOnWrong : ChangeSpec := { name := "fnExactPaidOn", fn := fun _ => fun
  | [d1, d2] => { results := [.lit (.bool false)], args := [d1, d2] }
  | _ => none }
def FnExactPaidOnWrongFalsely : Prop := fnExactPaidOnRow.holds Try.pinned (OpenSpec.ofChange fnExactPaidOnWrong)

/-- 'laws.FnExactPaidOut': WHATEVER THE INPUT: true; the input reads as it did. -/
def fnExactPaidOutSpec : ChangeSpec := { name := "fnExactPaidOut", fn := fun _ => fun
  | [d1, d2, d3] => { results := [.lit (.bool true)], args := [d1, d2, d3] }
  | _ => none }
def fnExactPaidOutRow : OpenClaim := { program := "yteefbkfhgmbcbaa", sum := "4ae9f91e1f8909eb2fc0b5e046f6dc0ea126e8192213f66536bee11cc31b205b", func := "loop.example/fairbooks/laws.FnExactPaidOut", spec := "fnExactPaidOut", apart := false }
def FnExactPaidOutSaid : Prop := fnExactPaidOutRow.holds Try.pinned (OpenSpec.ofChange fnExactPaidOutSpec)

/-- ITS FALSE NEIGHBOUR: 'it returns false'. Refute it at one input. -/
def fnExactPaidOutWrong : ChangeSpec := { name := "fnExactPaidOut", fn := fun _ => fun
  | [d1, d2, d3] => { results := [.lit (.bool false)], args := [d1, d2, d3] }
  | _ => none }
def FnExactPaidOutWrongFalsely : Prop := fnExactPaidOutRow.holds Try.pinned (OpenSpec.ofChange fnExactPaidOutWrong)

/-- 'laws.FnExactTakenBy': WHATEVER THE INPUT: true; the input reads as it did. -/
def fnExactTakenBySpec : ChangeSpec := { name := "fnExactTakenBy", fn := fun _ => fun
  | [d1, d2, d3] => { results := [.lit (.bool true)], args := [d1, d2, d3] }
  | _ => none }
def fnExactTakenByRow : OpenClaim := { program := "yteefbkfhgmbcbaa", sum := "4ae9f91e1f8909eb2fc0b5e046f6dc0ea126e8192213f66536bee11cc31b205b", func := "loop.example/fairbooks/laws.FnExactTakenBy", spec := "fnExactTakenBy", apart := false }
def FnExactTakenBySaid : Prop := fnExactTakenByRow.holds Try.pinned (OpenSpec.ofChange fnExactTakenBySpec)

/-- ITS FALSE NEIGHBOUR: 'it returns false'. Refute it at one input. -/
def fnExactTakenByWrong : ChangeSpec := { name := "fnExactTakenBy", fn := fun _ => fun
  | [d1, d2, d3] => { results := [.lit (.bool false)], args := [d1, d2, d3] }
  | _ => none }
def FnExactTakenByWrongFalsely : Prop := fnExactTakenByRow.holds Try.pinned (OpenSpec.ofChange fnExactTakenByWrong)

/- THE SECOND FORM. 'bulk': how many values and letters a reading holds, each counted each time it is reached (what is shared counts as often as it is met; a slice's spare places count too). A statement '..UptoSaid' is the law's where the arguments, and the package variables that the reading takes, are together of bulk at most 1048576: NARROWER than '..Said'. Prove '..Said' where nothing that the law and all that it calls make is longer than what came in: it says more and counts as full. Else prove '..UptoSaid'. A law counts once. -/
mutual
def uptoBulk {H : Type} : DataW H → Nat
  | .lit (.string bytes) => bytes.length + 1
  | .lit _ => 1
  | .nil => 1
  | .ptr d => uptoBulk d + 1
  | .slice elems spare => uptoBulkAll elems + uptoBulkAll spare + 1
  | .agg parts => uptoBulkAll parts + 1
  | .iface _ d => uptoBulk d + 1
  | .map entries => uptoBulkEntries entries + 1
  | .held _ => 1
def uptoBulkAll {H : Type} : List (DataW H) → Nat
  | [] => 0
  | d :: r => uptoBulk d + uptoBulkAll r
def uptoBulkEntries {H : Type} : List (Lit × DataW H) → Nat
  | [] => 0
  | x :: r => uptoBulkEntry x + uptoBulkEntries r
def uptoBulkEntry {H : Type} : Lit × DataW H → Nat
  | (.string bytes, d) => bytes.length + uptoBulk d + 1
  | (_, d) => uptoBulk d + 1
 end
def uptoSmall : (H : Type) → List (DataW H) → Bool := fun _ ds => decide (uptoBulkAll ds ≤ 1048576)
def OpenSpec.upto (s : _root_.Go.ChangeSpec) : _root_.Go.OpenSpec := { _root_.Go.OpenSpec.ofChange s with cond := some uptoSmall }

/-- 'laws.FnTicketsOk', WHERE WHAT IT READS IS OF BULK AT MOST 1048576: true; the input reads as it did. -/
def fnTicketsOkUptoRow : OpenClaim := { program := "yteefbkfhgmbcbaa", sum := "4ae9f91e1f8909eb2fc0b5e046f6dc0ea126e8192213f66536bee11cc31b205b", func := "loop.example/fairbooks/laws.FnTicketsOk", spec := "fnTicketsOk", apart := false, narrowed := true }
def FnTicketsOkUptoSaid : Prop := fnTicketsOkUptoRow.holds Try.pinned (OpenSpec.upto fnTicketsOkSpec)

/-- 'laws.FnPoolOf', WHERE WHAT IT READS IS OF BULK AT MOST 1048576: true; the input reads as it did. -/
def fnPoolOfUptoRow : OpenClaim := { program := "yteefbkfhgmbcbaa", sum := "4ae9f91e1f8909eb2fc0b5e046f6dc0ea126e8192213f66536bee11cc31b205b", func := "loop.example/fairbooks/laws.FnPoolOf", spec := "fnPoolOf", apart := false, narrowed := true }
def FnPoolOfUptoSaid : Prop := fnPoolOfUptoRow.holds Try.pinned (OpenSpec.upto fnPoolOfSpec)

/-- 'laws.FnPaidOn', WHERE WHAT IT READS IS OF BULK AT MOST 1048576: true; the input reads as it did. -/
def fnPaidOnUptoRow : OpenClaim := { program := "yteefbkfhgmbcbaa", sum := "4ae9f91e1f8909eb2fc0b5e046f6dc0ea126e8192213f66536bee11cc31b205b", func := "loop.example/fairbooks/laws.FnPaidOn", spec := "fnPaidOn", apart := false, narrowed := true }
def FnPaidOnUptoSaid : Prop := fnPaidOnUptoRow.holds Try.pinned (OpenSpec.upto fnPaidOnSpec)

/-- 'laws.FnPaidOut', WHERE WHAT IT READS IS OF BULK AT MOST 1048576: true; the input reads as it did. -/
def fnPaidOutUptoRow : OpenClaim := { program := "yteefbkfhgmbcbaa", sum := "4ae9f91e1f8909eb2fc0b5e046f6dc0ea126e8192213f66536bee11cc31b205b", func := "loop.example/fairbooks/laws.FnPaidOut", spec := "fnPaidOut", apart := false, narrowed := true }
def FnPaidOutUptoSaid : Prop := fnPaidOutUptoRow.holds Try.pinned (OpenSpec.upto fnPaidOutSpec)

/-- 'laws.FnTakenBy', WHERE WHAT IT READS IS OF BULK AT MOST 1048576: true; the input reads as it did. -/
def fnTakenByUptoRow : OpenClaim := { program := "yteefbkfhgmbcbaa", sum := "4ae9f91e1f8909eb2fc0b5e046f6dc0ea126e8192213f66536bee11cc31b205b", func := "loop.example/fairbooks/laws.FnTakenBy", spec := "fnTakenBy", apart := false, narrowed := true }
def FnTakenByUptoSaid : Prop := fnTakenByUptoRow.holds Try.pinned (OpenSpec.upto fnTakenBySpec)

/-- 'laws.FnPoolWorst', WHERE WHAT IT READS IS OF BULK AT MOST 1048576: true; the input reads as it did. -/
def fnPoolWorstUptoRow : OpenClaim := { program := "yteefbkfhgmbcbaa", sum := "4ae9f91e1f8909eb2fc0b5e046f6dc0ea126e8192213f66536bee11cc31b205b", func := "loop.example/fairbooks/laws.FnPoolWorst", spec := "fnPoolWorst", unfollowed := true, recurses := true, apart := false, narrowed := true }
def FnPoolWorstUptoSaid : Prop := fnPoolWorstUptoRow.holds Try.pinned (OpenSpec.upto fnPoolWorstSpec)

/-- 'laws.FnExactTicketsOk', WHERE WHAT IT READS IS OF BULK AT MOST 1048576: true; the input reads as it did. -/
def fnExactTicketsOkUptoRow : OpenClaim := { program := "yteefbkfhgmbcbaa", sum := "4ae9f91e1f8909eb2fc0b5e046f6dc0ea126e8192213f66536bee11cc31b205b", func := "loop.example/fairbooks/laws.FnExactTicketsOk", spec := "fnExactTicketsOk", apart := false, narrowed := true }
def FnExactTicketsOkUptoSaid : Prop := fnExactTicketsOkUptoRow.holds Try.pinned (OpenSpec.upto fnExactTicketsOkSpec)

/-- 'laws.FnExactPoolOf', WHERE WHAT IT READS IS OF BULK AT MOST 1048576: true; the input reads as it did. -/
def fnExactPoolOfUptoRow : OpenClaim := { program := "yteefbkfhgmbcbaa", sum := "4ae9f91e1f8909eb2fc0b5e046f6dc0ea126e8192213f66536bee11cc31b205b", func := "loop.example/fairbooks/laws.FnExactPoolOf", spec := "fnExactPoolOf", apart := false, narrowed := true }
def FnExactPoolOfUptoSaid : Prop := fnExactPoolOfUptoRow.holds Try.pinned (OpenSpec.upto fnExactPoolOfSpec)

/-- 'laws.FnExactPaidOn', WHERE WHAT IT READS IS OF BULK AT MOST 1048576: true; the input reads as it did. -/
def fnExactPaidOnUptoRow : OpenClaim := { program := "yteefbkfhgmbcbaa", sum := "4ae9f91e1f8909eb2fc0b5e046f6dc0ea126e8192213f66536bee11cc31b205b", func := "loop.example/fairbooks/laws.FnExactPaidOn", spec := "fnExactPaidOn", apart := false, narrowed := true }
def FnExactPaidOnUptoSaid : Prop := fnExactPaidOnUptoRow.holds Try.pinned (OpenSpec.upto fnExactPaidOnSpec)

/-- 'laws.FnExactPaidOut', WHERE WHAT IT READS IS OF BULK AT MOST 1048576: true; the input reads as it did. -/
def fnExactPaidOutUptoRow : OpenClaim := { program := "yteefbkfhgmbcbaa", sum := "4ae9f91e1f8909eb2fc0b5e046f6dc0ea126e8192213f66536bee11cc31b205b", func := "loop.example/fairbooks/laws.FnExactPaidOut", spec := "fnExactPaidOut", apart := false, narrowed := true }
def FnExactPaidOutUptoSaid : Prop := fnExactPaidOutUptoRow.holds Try.pinned (OpenSpec.upto fnExactPaidOutSpec)

/-- 'laws.FnExactTakenBy', WHERE WHAT IT READS IS OF BULK AT MOST 1048576: true; the input reads as it did. -/
def fnExactTakenByUptoRow : OpenClaim := { program := "yteefbkfhgmbcbaa", sum := "4ae9f91e1f8909eb2fc0b5e046f6dc0ea126e8192213f66536bee11cc31b205b", func := "loop.example/fairbooks/laws.FnExactTakenBy", spec := "fnExactTakenBy", apart := false, narrowed := true }
def FnExactTakenByUptoSaid : Prop := fnExactTakenByUptoRow.holds Try.pinned (OpenSpec.upto fnExactTakenBySpec)

end Rows
end Go.Proofs.Yteefbkfhgmbcbaa
