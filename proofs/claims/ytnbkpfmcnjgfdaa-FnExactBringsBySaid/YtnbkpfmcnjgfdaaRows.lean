/-
  No cell of these rows narrows 'for every input' (looked for: loops, veiled, ifaces, maps, wideKeys, modest, calm, conditions, laid).
  DERIVED. THE GIVEN ROWS OF THIS SEAT. 3 by the template 'for every input the law returns true; each argument reads behind the call as it read before'; 0 by the template 'total and deterministic' (their statements: YtnbkpfmcnjgfdaaTotals.lean).
  GIVEN WITH THE SEED: the statements are not yours to turn. If you find one false, say at which input.
  Laid BY PROGRAM, IN A SANDBOX (cutbox-rows.mjs): the forced cells as the released guide's own fill.sh prints them over the translation b81ae20777c8e633… (all of the seat's roots in one cut). By AI agents, Wed Nov 11 2026. No macro, syntax, notation, axiom, sorry.
-/
import Derived.Test.YtnbkpfmcnjgfdaaChecked
import GoSem.Claim
import GoSem.ClaimJoined
import GoSem.ClaimMapViews
import Derived.JoinedTies
import Derived.KernelRfl
namespace Go.Proofs.Ytnbkpfmcnjgfdaa
/- THE CELL 'sum', in the pinned program and in every row, IS THE sha256 OF THE DUMP (.gsa) THAT YtnbkpfmcnjgfdaaProg.lean LOADS. Nothing in Lean hashes anything: it is a label: what it is worth is what the hold of that sum in a sandbox is worth. -/
noncomputable def Try.pinned : Pinned := { name := "ytnbkpfmcnjgfdaa", sum := "b81ae20777c8e6339c0e1ab53f9b5a26194ddc599adca45d0c3c9ef4a672d6fc", checked := Try.checked }
namespace Rows
def none {H : Type} : Left H := { results := [], args := [] }

/-- 'laws.FnBringsBy': WHATEVER THE INPUT: true; the input reads as it did. -/
def fnBringsBySpec : ChangeSpec := { name := "fnBringsBy", fn := fun _ => fun
  | [d] => { results := [.lit (.bool true)], args := [d] }
  | _ => none }
def fnBringsByRow : OpenClaim := { program := "ytnbkpfmcnjgfdaa", sum := "b81ae20777c8e6339c0e1ab53f9b5a26194ddc599adca45d0c3c9ef4a672d6fc", func := "loop.example/fairbooks/laws.FnBringsBy", spec := "fnBringsBy", unfollowed := true, recurses := true, apart := false }
def FnBringsBySaid : Prop := fnBringsByRow.holds Try.pinned (OpenSpec.ofChange fnBringsBySpec)

/-- ITS FALSE NEIGHBOUR: 'it returns false'. Refute it at one input. -/
def fnBringsByWrong : ChangeSpec := { name := "fnBringsBy", fn := fun _ => fun
  | [d] => { results := [.lit (.bool false)], args := [d] }
  | _ => none }
def FnBringsByWrongFalsely : Prop := fnBringsByRow.holds Try.pinned (OpenSpec.ofChange fnBringsByWrong)

/-- 'laws.FnFitsOk': WHATEVER THE INPUT: true; the input reads as it did. -/
def fnFitsOkSpec : ChangeSpec := { name := "fnFitsOk", fn := fun _ => fun
  | [d1, d2] => { results := [.lit (.bool true)], args := [d1, d2] }
  | _ => none }
def fnFitsOkRow : OpenClaim := { program := "ytnbkpfmcnjgfdaa", sum := "b81ae20777c8e6339c0e1ab53f9b5a26194ddc599adca45d0c3c9ef4a672d6fc", func := "loop.example/fairbooks/laws.FnFitsOk", spec := "fnFitsOk", unfollowed := true, recurses := true, apart := false }
def FnFitsOkSaid : Prop := fnFitsOkRow.holds Try.pinned (OpenSpec.ofChange fnFitsOkSpec)

/-- ITS FALSE NEIGHBOUR: 'it returns false'. Refute it at one input. -/
def fnFitsOkWrong : ChangeSpec := { name := "fnFitsOk", fn := fun _ => fun
  | [d1, d2] => { results := [.lit (.bool false)], args := [d1, d2] }
  | _ => none }
def FnFitsOkWrongFalsely : Prop := fnFitsOkRow.holds Try.pinned (OpenSpec.ofChange fnFitsOkWrong)

/-- 'laws.FnExactBringsBy': WHATEVER THE INPUT: true; the input reads as it did. -/
def fnExactBringsBySpec : ChangeSpec := { name := "fnExactBringsBy", fn := fun _ => fun
  | [d1, d2] => { results := [.lit (.bool true)], args := [d1, d2] }
  | _ => none }
def fnExactBringsByRow : OpenClaim := { program := "ytnbkpfmcnjgfdaa", sum := "b81ae20777c8e6339c0e1ab53f9b5a26194ddc599adca45d0c3c9ef4a672d6fc", func := "loop.example/fairbooks/laws.FnExactBringsBy", spec := "fnExactBringsBy", apart := false }
def FnExactBringsBySaid : Prop := fnExactBringsByRow.holds Try.pinned (OpenSpec.ofChange fnExactBringsBySpec)

/-- ITS FALSE NEIGHBOUR: 'it returns false'. Refute it at one input. -/
def fnExactBringsByWrong : ChangeSpec := { name := "fnExactBringsBy", fn := fun _ => fun
  | [d1, d2] => { results := [.lit (.bool false)], args := [d1, d2] }
  | _ => none }
def FnExactBringsByWrongFalsely : Prop := fnExactBringsByRow.holds Try.pinned (OpenSpec.ofChange fnExactBringsByWrong)

/- THE SECOND FORM. 'bulk': how many values and letters a reading holds, each counted each time it is reached (what is shared counts as often as it is met; a slice's spare places count too). A statement '..UptoSaid' is the law's where the arguments, and the package variables that the reading takes, are together of bulk at most 1048576: NARROWER than '..Said'. Prove '..Said' where nothing that the law and all that it calls make is longer than what came in: it says more and counts as full. Else prove '..UptoSaid'. A law counts once. -/
mutual
def uptoBulk {H : Type} : DataW H → Nat
  | .lit (.string bytes) => bytes.length + 1
  | .lit _ => 1
  | .nil => 1
  | .ptr d => uptoBulk d + 1
  | .slice elems spare => uptoBulkAll elems + uptoBulkAll spare + 1
  | .agg parts => uptoBulkAll parts + 1
  | .iface _ d => uptoBulk d + 1
  | .map entries => uptoBulkEntries entries + 1
  | .held _ => 1
def uptoBulkAll {H : Type} : List (DataW H) → Nat
  | [] => 0
  | d :: r => uptoBulk d + uptoBulkAll r
def uptoBulkEntries {H : Type} : List (Lit × DataW H) → Nat
  | [] => 0
  | x :: r => uptoBulkEntry x + uptoBulkEntries r
def uptoBulkEntry {H : Type} : Lit × DataW H → Nat
  | (.string bytes, d) => bytes.length + uptoBulk d + 1
  | (_, d) => uptoBulk d + 1
 end
def uptoSmall : (H : Type) → List (DataW H) → Bool := fun _ ds => decide (uptoBulkAll ds ≤ 1048576)
def OpenSpec.upto (s : _root_.Go.ChangeSpec) : _root_.Go.OpenSpec := { _root_.Go.OpenSpec.ofChange s with cond := some uptoSmall }

/-- 'laws.FnBringsBy', WHERE WHAT IT READS IS OF BULK AT MOST 1048576: true; the input reads as it did. -/
def fnBringsByUptoRow : OpenClaim := { program := "ytnbkpfmcnjgfdaa", sum := "b81ae20777c8e6339c0e1ab53f9b5a26194ddc599adca45d0c3c9ef4a672d6fc", func := "loop.example/fairbooks/laws.FnBringsBy", spec := "fnBringsBy", unfollowed := true, recurses := true, apart := false, narrowed := true }
def FnBringsByUptoSaid : Prop := fnBringsByUptoRow.holds Try.pinned (OpenSpec.upto fnBringsBySpec)

/-- 'laws.FnFitsOk', WHERE WHAT IT READS IS OF BULK AT MOST 1048576: true; the input reads as it did. -/
def fnFitsOkUptoRow : OpenClaim := { program := "ytnbkpfmcnjgfdaa", sum := "b81ae20777c8e6339c0e1ab53f9b5a26194ddc599adca45d0c3c9ef4a672d6fc", func := "loop.example/fairbooks/laws.FnFitsOk", spec := "fnFitsOk", unfollowed := true, recurses := true, apart := false, narrowed := true }
def FnFitsOkUptoSaid : Prop := fnFitsOkUptoRow.holds Try.pinned (OpenSpec.upto fnFitsOkSpec)

/-- 'laws.FnExactBringsBy', WHERE WHAT IT READS IS OF BULK AT MOST 1048576: true; the input reads as it did. -/
def fnExactBringsByUptoRow : OpenClaim := { program := "ytnbkpfmcnjgfdaa", sum := "b81ae20777c8e6339c0e1ab53f9b5a26194ddc599adca45d0c3c9ef4a672d6fc", func := "loop.example/fairbooks/laws.FnExactBringsBy", spec := "fnExactBringsBy", apart := false, narrowed := true }
def FnExactBringsByUptoSaid : Prop := fnExactBringsByUptoRow.holds Try.pinned (OpenSpec.upto fnExactBringsBySpec)

end Rows
end Go.Proofs.Ytnbkpfmcnjgfdaa
