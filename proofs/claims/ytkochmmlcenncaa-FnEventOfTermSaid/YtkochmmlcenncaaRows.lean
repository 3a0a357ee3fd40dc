/-
  No cell of these rows narrows 'for every input' (looked for: loops, veiled, ifaces, maps, wideKeys, modest, calm, conditions, laid).
  DERIVED. THE GIVEN ROWS OF THIS SEAT. 10 by the template 'for every input the law returns true; each argument reads behind the call as it read before'; 0 by the template 'total and deterministic' (their statements: YtkochmmlcenncaaTotals.lean).
  GIVEN WITH THE SEED: the statements are not yours to turn. If you find one false, say at which input.
  Laid BY PROGRAM, IN A SANDBOX (cutbox-rows.mjs): the forced cells as the released guide's own fill.sh prints them over the translation e0a363b5aea52f77… (all of the seat's roots in one cut). By AI agents, Wed Nov 11 2026. No macro, syntax, notation, axiom, sorry.
-/
import Derived.Test.YtkochmmlcenncaaChecked
import GoSem.Claim
import GoSem.ClaimJoined
import GoSem.ClaimMapViews
import Derived.JoinedTies
import Derived.KernelRfl
namespace Go.Proofs.Ytkochmmlcenncaa
/- THE CELL 'sum', in the pinned program and in every row, IS THE sha256 OF THE DUMP (.gsa) THAT YtkochmmlcenncaaProg.lean LOADS. Nothing in Lean hashes anything: it is a label: what it is worth is what the hold of that sum in a sandbox is worth. -/
noncomputable def Try.pinned : Pinned := { name := "ytkochmmlcenncaa", sum := "e0a363b5aea52f77cf3f2e7fea6b2c468909fedad68371556eeee6aa0920cd76", checked := Try.checked }
namespace Rows
def none {H : Type} : Left H := { results := [], args := [] }

/-- 'laws.FnTermOk': WHATEVER THE INPUT: true; the input reads as it did. -/
def fnTermOkSpec : ChangeSpec := { name := "fnTermOk", fn := fun _ => fun
  | [d] => { results := [.lit (.bool true)], args := [d] }
  | _ => none }
def fnTermOkRow : OpenClaim := { program := "ytkochmmlcenncaa", sum := "e0a363b5aea52f77cf3f2e7fea6b2c468909fedad68371556eeee6aa0920cd76", func := "loop.example/fairbooks/laws.FnTermOk", spec := "fnTermOk", unfollowed := true, recurses := true, apart := false }
def FnTermOkSaid : Prop := fnTermOkRow.holds Try.pinned (OpenSpec.ofChange fnTermOkSpec)

/-- ITS FALSE NEIGHBOUR: 'it returns false'. Refute it at one input. -/
def fnTermOkWrong : ChangeSpec := { name := "fnTermOk", fn := fun _ => fun
  | [d] => { results := [.lit (.bool false)], args := [d] }
  | _ => none }
def FnTermOkWrongFalsely : Prop := fnTermOkRow.holds Try.pinned (OpenSpec.ofChange fnTermOkWrong)

/-- 'laws.FnEventOfTerm': WHATEVER THE INPUT: true; the input reads as it did. -/
def fnEventOfTermSpec : ChangeSpec := { name := "fnEventOfTerm", fn := fun _ => fun
  | [d] => { results := [.lit (.bool true)], args := [d] }
  | _ => none }
def fnEventOfTermRow : OpenClaim := { program := "ytkochmmlcenncaa", sum := "e0a363b5aea52f77cf3f2e7fea6b2c468909fedad68371556eeee6aa0920cd76", func := "loop.example/fairbooks/laws.FnEventOfTerm", spec := "fnEventOfTerm", unfollowed := true, recurses := true, apart := false }
def FnEventOfTermSaid : Prop := fnEventOfTermRow.holds Try.pinned (OpenSpec.ofChange fnEventOfTermSpec)

/-- ITS FALSE NEIGHBOUR: 'it returns false'. Refute it at one input. -/
def fnEventOfTermWrong : ChangeSpec := { name := "fnEventOfTerm", fn := fun _ => fun
  | [d] => { results := [.lit (.bool false)], args := [d] }
  | _ => none }
def FnEventOfTermWrongFalsely : Prop := fnEventOfTermRow.holds Try.pinned (OpenSpec.ofChange fnEventOfTermWrong)

/-- 'laws.FnTermText': WHATEVER THE INPUT: true; the input reads as it did. -/
def fnTermTextSpec : ChangeSpec := { name := "fnTermText", fn := fun _ => fun
  | [d] => { results := [.lit (.bool true)], args := [d] }
  | _ => none }
def fnTermTextRow : OpenClaim := { program := "ytkochmmlcenncaa", sum := "e0a363b5aea52f77cf3f2e7fea6b2c468909fedad68371556eeee6aa0920cd76", func := "loop.example/fairbooks/laws.FnTermText", spec := "fnTermText", inPlace := ["internal/bytealg.IndexByteString"], unfollowed := true, recurses := true, apart := false }
def FnTermTextSaid : Prop := fnTermTextRow.holds Try.pinned (OpenSpec.ofChange fnTermTextSpec)

/-- ITS FALSE NEIGHBOUR: 'it returns false'. Refute it at one input. -/
def fnTermTextWrong : ChangeSpec := { name := "fnTermText", fn := fun _ => fun
  | [d] => { results := [.lit (.bool false)], args := [d] }
  | _ => none }
def FnTermTextWrongFalsely : Prop := fnTermTextRow.holds Try.pinned (OpenSpec.ofChange fnTermTextWrong)

/-- 'laws.FnReadTerm': WHATEVER THE INPUT: true; the input reads as it did. -/
def fnReadTermSpec : ChangeSpec := { name := "fnReadTerm", fn := fun _ => fun
  | [d] => { results := [.lit (.bool true)], args := [d] }
  | _ => none }
def fnReadTermRow : OpenClaim := { program := "ytkochmmlcenncaa", sum := "e0a363b5aea52f77cf3f2e7fea6b2c468909fedad68371556eeee6aa0920cd76", func := "loop.example/fairbooks/laws.FnReadTerm", spec := "fnReadTerm", inPlace := ["internal/bytealg.IndexByteString"], unfollowed := true, recurses := true, apart := false }
def FnReadTermSaid : Prop := fnReadTermRow.holds Try.pinned (OpenSpec.ofChange fnReadTermSpec)

/-- ITS FALSE NEIGHBOUR: 'it returns false'. Refute it at one input. -/
def fnReadTermWrong : ChangeSpec := { name := "fnReadTerm", fn := fun _ => fun
  | [d] => { results := [.lit (.bool false)], args := [d] }
  | _ => none }
def FnReadTermWrongFalsely : Prop := fnReadTermRow.holds Try.pinned (OpenSpec.ofChange fnReadTermWrong)

/-- 'laws.FnSumTerm': WHATEVER THE INPUT: true; the input reads as it did. -/
def fnSumTermSpec : ChangeSpec := { name := "fnSumTerm", fn := fun _ => fun
  | [d] => { results := [.lit (.bool true)], args := [d] }
  | _ => none }
def fnSumTermRow : OpenClaim := { program := "ytkochmmlcenncaa", sum := "e0a363b5aea52f77cf3f2e7fea6b2c468909fedad68371556eeee6aa0920cd76", func := "loop.example/fairbooks/laws.FnSumTerm", spec := "fnSumTerm", inPlace := ["internal/bytealg.IndexByteString"], unfollowed := true, recurses := true, apart := false }
def FnSumTermSaid : Prop := fnSumTermRow.holds Try.pinned (OpenSpec.ofChange fnSumTermSpec)

/-- ITS FALSE NEIGHBOUR: 'it returns false'. Refute it at one input. -/
def fnSumTermWrong : ChangeSpec := { name := "fnSumTerm", fn := fun _ => fun
  | [d] => { results := [.lit (.bool false)], args := [d] }
  | _ => none }
def FnSumTermWrongFalsely : Prop := fnSumTermRow.holds Try.pinned (OpenSpec.ofChange fnSumTermWrong)

/-- 'laws.FnExactTermOk': WHATEVER THE INPUT: true; the input reads as it did. -/
def fnExactTermOkSpec : ChangeSpec := { name := "fnExactTermOk", fn := fun _ => fun
  | [d] => { results := [.lit (.bool true)], args := [d] }
  | _ => none }
def fnExactTermOkRow : OpenClaim := { program := "ytkochmmlcenncaa", sum := "e0a363b5aea52f77cf3f2e7fea6b2c468909fedad68371556eeee6aa0920cd76", func := "loop.example/fairbooks/laws.FnExactTermOk", spec := "fnExactTermOk", unfollowed := true, recurses := true, apart := false }
def FnExactTermOkSaid : Prop := fnExactTermOkRow.holds Try.pinned (OpenSpec.ofChange fnExactTermOkSpec)

/-- ITS FALSE NEIGHBOUR: 'it returns false'. Refute it at one input. -/
def fnExactTermOkWrong : ChangeSpec := { name := "fnExactTermOk", fn := fun _ => fun
  | [d] => { results := [.lit (.bool false)], args := [d] }
  | _ => none }
def FnExactTermOkWrongFalsely : Prop := fnExactTermOkRow.holds Try.pinned (OpenSpec.ofChange fnExactTermOkWrong)

/-- 'laws.FnExactEventOfTerm': WHATEVER THE INPUT: true; the input reads as it did. -/
def fnExactEventOfTermSpec : ChangeSpec := { name := "fnExactEventOfTerm", fn := fun _ => fun
  | [d] => { results := [.lit (.bool true)], args := [d] }
  | _ => none }
def fnExactEventOfTermRow : OpenClaim := { program := "ytkochmmlcenncaa", sum := "e0a363b5aea52f77cf3f2e7fea6b2c468909fedad68371556eeee6aa0920cd76", func := "loop.example/fairbooks/laws.FnExactEventOfTerm", spec := "fnExactEventOfTerm", unfollowed := true, recurses := true, apart := false }
def FnExactEventOfTermSaid : Prop := fnExactEventOfTermRow.holds Try.pinned (OpenSpec.ofChange fnExactEventOfTermSpec)

/-- ITS FALSE NEIGHBOUR: 'it returns false'. Refute it at one input. -/
def fnExactEventOfTermWrong : ChangeSpec := { name := "fnExactEventOfTerm", fn := fun _ => fun
  | [d] => { results := [.lit (.bool false)], args := [d] }
  | _ => none }
def FnExactEventOfTermWrongFalsely : Prop := fnExactEventOfTermRow.holds Try.pinned (OpenSpec.ofChange fnExactEventOfTermWrong)

/-- 'laws.FnExactTermText': WHATEVER THE INPUT: true; the input reads as it did. -/
def fnExactTermTextSpec : ChangeSpec := { name := "fnExactTermText", fn := fun _ => fun
  | [d] => { results := [.lit (.bool true)], args := [d] }
  | _ => none }
def fnExactTermTextRow : OpenClaim := { program := "ytkochmmlcenncaa", sum := "e0a363b5aea52f77cf3f2e7fea6b2c468909fedad68371556eeee6aa0920cd76", func := "loop.example/fairbooks/laws.FnExactTermText", spec := "fnExactTermText", unfollowed := true, recurses := true, apart := false }
def FnExactTermTextSaid : Prop := fnExactTermTextRow.holds Try.pinned (OpenSpec.ofChange fnExactTermTextSpec)

/-- ITS FALSE NEIGHBOUR: 'it returns false'. Refute it at one input. -/
def fnExactTermTextWrong : ChangeSpec := { name := "fnExactTermText", fn := fun _ => fun
  | [d] => { results := [.lit (.bool false)], args := [d] }
  | _ => none }
def FnExactTermTextWrongFalsely : Prop := fnExactTermTextRow.holds Try.pinned (OpenSpec.ofChange fnExactTermTextWrong)

/-- 'laws.FnExactReadTerm': WHATEVER THE INPUT: true; the input reads as it did. -/
def fnExactReadTermSpec : ChangeSpec := { name := "fnExactReadTerm", fn := fun _ => fun
  | [d] => { results := [.lit (.bool true)], args := [d] }
  | _ => none }
def fnExactReadTermRow : OpenClaim := { program := "ytkochmmlcenncaa", sum := "e0a363b5aea52f77cf3f2e7fea6b2c468909fedad68371556eeee6aa0920cd76", func := "loop.example/fairbooks/laws.FnExactReadTerm", spec := "fnExactReadTerm", inPlace := ["internal/bytealg.IndexByteString"], unfollowed := true, recurses := true, apart := false }
def FnExactReadTermSaid : Prop := fnExactReadTermRow.holds Try.pinned (OpenSpec.ofChange fnExactReadTermSpec)

/-- ITS FALSE NEIGHBOUR: 'it returns false'. Refute it at one input. -/
def fnExactReadTermWrong : ChangeSpec := { name := "fnExactReadTerm", fn := fun _ => fun
  | [d] => { results := [.lit (.bool false)], args := [d] }
  | _ => none }
def FnExactReadTermWrongFalsely : Prop := fnExactReadTermRow.holds Try.pinned (OpenSpec.ofChange fnExactReadTermWrong)

/-- 'laws.FnExactSumTerm': WHATEVER THE INPUT: true; the input reads as it did. -/
def fnExactSumTermSpec : ChangeSpec := { name := "fnExactSumTerm", fn := fun _ => fun
  | [d] => { results := [.lit (.bool true)], args := [d] }
  | _ => none }
def fnExactSumTermRow : OpenClaim := { program := "ytkochmmlcenncaa", sum := "e0a363b5aea52f77cf3f2e7fea6b2c468909fedad68371556eeee6aa0920cd76", func := "loop.example/fairbooks/laws.FnExactSumTerm", spec := "fnExactSumTerm", apart := false }
def FnExactSumTermSaid : Prop := fnExactSumTermRow.holds Try.pinned (OpenSpec.ofChange fnExactSumTermSpec)

/-- ITS FALSE NEIGHBOUR: 'it returns false'. Refute it at one input. -/
def fnExactSumTermWrong : ChangeSpec := { name := "fnExactSumTerm", fn := fun _ => fun
  | [d] => { results := [.lit (.bool false)], args := [d] }
  | _ => none }
def FnExactSumTermWrongFalsely : Prop := fnExactSumTermRow.holds Try.pinned (OpenSpec.ofChange fnExactSumTermWrong)

/- THE SECOND FORM. 'bulk': how many values and letters a reading holds, each counted each time it is reached (what is shared counts as often as it is met; a slice's spare places count too). A statement '..UptoSaid' is the law's where the arguments, and the package variables that the reading takes, are together of bulk at most 1048576: NARROWER than '..Said'. Prove '..Said' where nothing that the law and all that it calls make is longer than what came in: it says more and counts as full. Else prove '..UptoSaid'. A law counts once. -/
mutual
def uptoBulk {H : Type} : DataW H → Nat
  | .lit (.string bytes) => bytes.length + 1
  | .lit _ => 1
  | .nil => 1
  | .ptr d => uptoBulk d + 1
  | .slice elems spare => uptoBulkAll elems + uptoBulkAll spare + 1
  | .agg parts => uptoBulkAll parts + 1
  | .iface _ d => uptoBulk d + 1
  | .map entries => uptoBulkEntries entries + 1
  | .held _ => 1
def uptoBulkAll {H : Type} : List (DataW H) → Nat
  | [] => 0
  | d :: r => uptoBulk d + uptoBulkAll r
def uptoBulkEntries {H : Type} : List (Lit × DataW H) → Nat
  | [] => 0
  | x :: r => uptoBulkEntry x + uptoBulkEntries r
def uptoBulkEntry {H : Type} : Lit × DataW H → Nat
  | (.string bytes, d) => bytes.length + uptoBulk d + 1
  | (_, d) => uptoBulk d + 1
 end
def uptoSmall : (H : Type) → List (DataW H) → Bool := fun _ ds => decide (uptoBulkAll ds ≤ 1048576)
def OpenSpec.upto (s : _root_.Go.ChangeSpec) : _root_.Go.OpenSpec := { _root_.Go.OpenSpec.ofChange s with cond := some uptoSmall }

/-- 'laws.FnTermOk', WHERE WHAT IT READS IS OF BULK AT MOST 1048576: true; the input reads as it did. -/
def fnTermOkUptoRow : OpenClaim := { program := "ytkochmmlcenncaa", sum := "e0a363b5aea52f77cf3f2e7fea6b2c468909fedad68371556eeee6aa0920cd76", func := "loop.example/fairbooks/laws.FnTermOk", spec := "fnTermOk", unfollowed := true, recurses := true, apart := false, narrowed := true }
def FnTermOkUptoSaid : Prop := fnTermOkUptoRow.holds Try.pinned (OpenSpec.upto fnTermOkSpec)

/-- 'laws.FnEventOfTerm', WHERE WHAT IT READS IS OF BULK AT MOST 1048576: true; the input reads as it did. -/
def fnEventOfTermUptoRow : OpenClaim := { program := "ytkochmmlcenncaa", sum := "e0a363b5aea52f77cf3f2e7fea6b2c468909fedad68371556eeee6aa0920cd76", func := "loop.example/fairbooks/laws.FnEventOfTerm", spec := "fnEventOfTerm", unfollowed := true, recurses := true, apart := false, narrowed := true }
def FnEventOfTermUptoSaid : Prop := fnEventOfTermUptoRow.holds Try.pinned (OpenSpec.upto fnEventOfTermSpec)

/-- 'laws.FnTermText', WHERE WHAT IT READS IS OF BULK AT MOST 1048576: true; the input reads as it did. -/
def fnTermTextUptoRow : OpenClaim := { program := "ytkochmmlcenncaa", sum := "e0a363b5aea52f77cf3f2e7fea6b2c468909fedad68371556eeee6aa0920cd76", func := "loop.example/fairbooks/laws.FnTermText", spec := "fnTermText", inPlace := ["internal/bytealg.IndexByteString"], unfollowed := true, recurses := true, apart := false, narrowed := true }
def FnTermTextUptoSaid : Prop := fnTermTextUptoRow.holds Try.pinned (OpenSpec.upto fnTermTextSpec)

/-- 'laws.FnReadTerm', WHERE WHAT IT READS IS OF BULK AT MOST 1048576: true; the input reads as it did. -/
def fnReadTermUptoRow : OpenClaim := { program := "ytkochmmlcenncaa", sum := "e0a363b5aea52f77cf3f2e7fea6b2c468909fedad68371556eeee6aa0920cd76", func := "loop.example/fairbooks/laws.FnReadTerm", spec := "fnReadTerm", inPlace := ["internal/bytealg.IndexByteString"], unfollowed := true, recurses := true, apart := false, narrowed := true }
def FnReadTermUptoSaid : Prop := fnReadTermUptoRow.holds Try.pinned (OpenSpec.upto fnReadTermSpec)

/-- 'laws.FnSumTerm', WHERE WHAT IT READS IS OF BULK AT MOST 1048576: true; the input reads as it did. -/
def fnSumTermUptoRow : OpenClaim := { program := "ytkochmmlcenncaa", sum := "e0a363b5aea52f77cf3f2e7fea6b2c468909fedad68371556eeee6aa0920cd76", func := "loop.example/fairbooks/laws.FnSumTerm", spec := "fnSumTerm", inPlace := ["internal/bytealg.IndexByteString"], unfollowed := true, recurses := true, apart := false, narrowed := true }
def FnSumTermUptoSaid : Prop := fnSumTermUptoRow.holds Try.pinned (OpenSpec.upto fnSumTermSpec)

/-- 'laws.FnExactTermOk', WHERE WHAT IT READS IS OF BULK AT MOST 1048576: true; the input reads as it did. -/
def fnExactTermOkUptoRow : OpenClaim := { program := "ytkochmmlcenncaa", sum := "e0a363b5aea52f77cf3f2e7fea6b2c468909fedad68371556eeee6aa0920cd76", func := "loop.example/fairbooks/laws.FnExactTermOk", spec := "fnExactTermOk", unfollowed := true, recurses := true, apart := false, narrowed := true }
def FnExactTermOkUptoSaid : Prop := fnExactTermOkUptoRow.holds Try.pinned (OpenSpec.upto fnExactTermOkSpec)

/-- 'laws.FnExactEventOfTerm', WHERE WHAT IT READS IS OF BULK AT MOST 1048576: true; the input reads as it did. -/
def fnExactEventOfTermUptoRow : OpenClaim := { program := "ytkochmmlcenncaa", sum := "e0a363b5aea52f77cf3f2e7fea6b2c468909fedad68371556eeee6aa0920cd76", func := "loop.example/fairbooks/laws.FnExactEventOfTerm", spec := "fnExactEventOfTerm", unfollowed := true, recurses := true, apart := false, narrowed := true }
def FnExactEventOfTermUptoSaid : Prop := fnExactEventOfTermUptoRow.holds Try.pinned (OpenSpec.upto fnExactEventOfTermSpec)

/-- 'laws.FnExactTermText', WHERE WHAT IT READS IS OF BULK AT MOST 1048576: true; the input reads as it did. -/
def fnExactTermTextUptoRow : OpenClaim := { program := "ytkochmmlcenncaa", sum := "e0a363b5aea52f77cf3f2e7fea6b2c468909fedad68371556eeee6aa0920cd76", func := "loop.example/fairbooks/laws.FnExactTermText", spec := "fnExactTermText", unfollowed := true, recurses := true, apart := false, narrowed := true }
def FnExactTermTextUptoSaid : Prop := fnExactTermTextUptoRow.holds Try.pinned (OpenSpec.upto fnExactTermTextSpec)

/-- 'laws.FnExactReadTerm', WHERE WHAT IT READS IS OF BULK AT MOST 1048576: true; the input reads as it did. -/
def fnExactReadTermUptoRow : OpenClaim := { program := "ytkochmmlcenncaa", sum := "e0a363b5aea52f77cf3f2e7fea6b2c468909fedad68371556eeee6aa0920cd76", func := "loop.example/fairbooks/laws.FnExactReadTerm", spec := "fnExactReadTerm", inPlace := ["internal/bytealg.IndexByteString"], unfollowed := true, recurses := true, apart := false, narrowed := true }
def FnExactReadTermUptoSaid : Prop := fnExactReadTermUptoRow.holds Try.pinned (OpenSpec.upto fnExactReadTermSpec)

/-- 'laws.FnExactSumTerm', WHERE WHAT IT READS IS OF BULK AT MOST 1048576: true; the input reads as it did. -/
def fnExactSumTermUptoRow : OpenClaim := { program := "ytkochmmlcenncaa", sum := "e0a363b5aea52f77cf3f2e7fea6b2c468909fedad68371556eeee6aa0920cd76", func := "loop.example/fairbooks/laws.FnExactSumTerm", spec := "fnExactSumTerm", apart := false, narrowed := true }
def FnExactSumTermUptoSaid : Prop := fnExactSumTermUptoRow.holds Try.pinned (OpenSpec.upto fnExactSumTermSpec)

end Rows
end Go.Proofs.Ytkochmmlcenncaa
