/-
  No cell of these rows narrows 'for every input' (looked for: loops, veiled, ifaces, maps, wideKeys, modest, calm, conditions, laid).
  DERIVED. THE GIVEN ROWS OF THIS SEAT. 10 by the template 'for every input the law returns true; each argument reads behind the call as it read before'; 0 by the template 'total and deterministic' (their statements: YtdgaakdlnihejaaTotals.lean).
  GIVEN WITH THE SEED: the statements are not yours to turn. If you find one false, say at which input.
  Laid BY PROGRAM, IN A SANDBOX (cutbox-rows.mjs): the forced cells as the released guide's own fill.sh prints them over the translation b9a67041e091a04e… (all of the seat's roots in one cut). By AI agents, Wed Nov 11 2026. No macro, syntax, notation, axiom, sorry.
-/
import Derived.Test.YtdgaakdlnihejaaChecked
import GoSem.Claim
import GoSem.ClaimJoined
import GoSem.ClaimMapViews
import Derived.JoinedTies
import Derived.KernelRfl
namespace Go.Proofs.Ytdgaakdlnihejaa
/- THE CELL 'sum', in the pinned program and in every row, IS THE sha256 OF THE DUMP (.gsa) THAT YtdgaakdlnihejaaProg.lean LOADS. Nothing in Lean hashes anything: it is a label: what it is worth is what the hold of that sum in a sandbox is worth. -/
noncomputable def Try.pinned : Pinned := { name := "ytdgaakdlnihejaa", sum := "b9a67041e091a04ec8112d209b45fb55ddc27996055cf82ebfad9f08e4d48b86", checked := Try.checked }
namespace Rows
def none {H : Type} : Left H := { results := [], args := [] }

/-- 'laws.FnQuoteOk': WHATEVER THE INPUT: true; the input reads as it did. -/
def fnQuoteOkSpec : ChangeSpec := { name := "fnQuoteOk", fn := fun _ => fun
  | [d] => { results := [.lit (.bool true)], args := [d] }
  | _ => none }
def fnQuoteOkRow : OpenClaim := { program := "ytdgaakdlnihejaa", sum := "b9a67041e091a04ec8112d209b45fb55ddc27996055cf82ebfad9f08e4d48b86", func := "loop.example/fairbooks/laws.FnQuoteOk", spec := "fnQuoteOk", apart := false }
def FnQuoteOkSaid : Prop := fnQuoteOkRow.holds Try.pinned (OpenSpec.ofChange fnQuoteOkSpec)

/-- ITS FALSE NEIGHBOUR: 'it returns false'. Refute it at one input. -/
def fnQuoteOkWrong : ChangeSpec := { name := "fnQuoteOk", fn := fun _ => fun
  | [d] => { results := [.lit (.bool false)], args := [d] }
  | _ => none }
def FnQuoteOkWrongFalsely : Prop := fnQuoteOkRow.holds Try.pinned (OpenSpec.ofChange fnQuoteOkWrong)

/-- 'laws.FnBookOk': WHATEVER THE INPUT: true; the input reads as it did. -/
def fnBookOkSpec : ChangeSpec := { name := "fnBookOk", fn := fun _ => fun
  | [d] => { results := [.lit (.bool true)], args := [d] }
  | _ => none }
def fnBookOkRow : OpenClaim := { program := "ytdgaakdlnihejaa", sum := "b9a67041e091a04ec8112d209b45fb55ddc27996055cf82ebfad9f08e4d48b86", func := "loop.example/fairbooks/laws.FnBookOk", spec := "fnBookOk", apart := false }
def FnBookOkSaid : Prop := fnBookOkRow.holds Try.pinned (OpenSpec.ofChange fnBookOkSpec)

/-- ITS FALSE NEIGHBOUR: 'it returns false'. Refute it at one input. -/
def fnBookOkWrong : ChangeSpec := { name := "fnBookOk", fn := fun _ => fun
  | [d] => { results := [.lit (.bool false)], args := [d] }
  | _ => none }
def FnBookOkWrongFalsely : Prop := fnBookOkRow.holds Try.pinned (OpenSpec.ofChange fnBookOkWrong)

/-- 'laws.FnGainOf': WHATEVER THE INPUT: true; the input reads as it did. -/
def fnGainOfSpec : ChangeSpec := { name := "fnGainOf", fn := fun _ => fun
  | [d] => { results := [.lit (.bool true)], args := [d] }
  | _ => none }
def fnGainOfRow : OpenClaim := { program := "ytdgaakdlnihejaa", sum := "b9a67041e091a04ec8112d209b45fb55ddc27996055cf82ebfad9f08e4d48b86", func := "loop.example/fairbooks/laws.FnGainOf", spec := "fnGainOf", apart := false }
def FnGainOfSaid : Prop := fnGainOfRow.holds Try.pinned (OpenSpec.ofChange fnGainOfSpec)

/-- ITS FALSE NEIGHBOUR: 'it returns false'. Refute it at one input. -/
def fnGainOfWrong : ChangeSpec := { name := "fnGainOf", fn := fun _ => fun
  | [d] => { results := [.lit (.bool false)], args := [d] }
  | _ => none }
def FnGainOfWrongFalsely : Prop := fnGainOfRow.holds Try.pinned (OpenSpec.ofChange fnGainOfWrong)

/-- 'laws.FnOtherQuote': WHATEVER THE INPUT: true; the input reads as it did. -/
def fnOtherQuoteSpec : ChangeSpec := { name := "fnOtherQuote", fn := fun _ => fun
  | [d] => { results := [.lit (.bool true)], args := [d] }
  | _ => none }
def fnOtherQuoteRow : OpenClaim := { program := "ytdgaakdlnihejaa", sum := "b9a67041e091a04ec8112d209b45fb55ddc27996055cf82ebfad9f08e4d48b86", func := "loop.example/fairbooks/laws.FnOtherQuote", spec := "fnOtherQuote", apart := false }
def FnOtherQuoteSaid : Prop := fnOtherQuoteRow.holds Try.pinned (OpenSpec.ofChange fnOtherQuoteSpec)

/-- ITS FALSE NEIGHBOUR: 'it returns false'. Refute it at one input. -/
def fnOtherQuoteWrong : ChangeSpec := { name := "fnOtherQuote", fn := fun _ => fun
  | [d] => { results := [.lit (.bool false)], args := [d] }
  | _ => none }
def FnOtherQuoteWrongFalsely : Prop := fnOtherQuoteRow.holds Try.pinned (OpenSpec.ofChange fnOtherQuoteWrong)

/-- 'laws.FnBalanceOf': WHATEVER THE INPUT: true; the input reads as it did. -/
def fnBalanceOfSpec : ChangeSpec := { name := "fnBalanceOf", fn := fun _ => fun
  | [d] => { results := [.lit (.bool true)], args := [d] }
  | _ => none }
def fnBalanceOfRow : OpenClaim := { program := "ytdgaakdlnihejaa", sum := "b9a67041e091a04ec8112d209b45fb55ddc27996055cf82ebfad9f08e4d48b86", func := "loop.example/fairbooks/laws.FnBalanceOf", spec := "fnBalanceOf", unfollowed := true, recurses := true, apart := false }
def FnBalanceOfSaid : Prop := fnBalanceOfRow.holds Try.pinned (OpenSpec.ofChange fnBalanceOfSpec)

/-- ITS FALSE NEIGHBOUR: 'it returns false'. Refute it at one input. -/
def fnBalanceOfWrong : ChangeSpec := { name := "fnBalanceOf", fn := fun _ => fun
  | [d] => { results := [.lit (.bool false)], args := [d] }
  | _ => none }
def FnBalanceOfWrongFalsely : Prop := fnBalanceOfRow.holds Try.pinned (OpenSpec.ofChange fnBalanceOfWrong)

/-- 'laws.FnExactQuoteOk': WHATEVER THE INPUT: true; the input reads as it did. -/
def fnExactQuoteOkSpec : ChangeSpec := { name := "fnExactQuoteOk", fn := fun _ => fun
  | [d1, d2] => { results := [.lit (.bool true)], args := [d1, d2] }
  | _ => none }
def fnExactQuoteOkRow : OpenClaim := { program := "ytdgaakdlnihejaa", sum := "b9a67041e091a04ec8112d209b45fb55ddc27996055cf82ebfad9f08e4d48b86", func := "loop.example/fairbooks/laws.FnExactQuoteOk", spec := "fnExactQuoteOk", apart := false }
def FnExactQuoteOkSaid : Prop := fnExactQuoteOkRow.holds Try.pinned (OpenSpec.ofChange fnExactQuoteOkSpec)

/-- ITS FALSE NEIGHBOUR: 'it returns false'. Refute it at one input. -/
def fnExactQuoteOkWrong : ChangeSpec := { name := "fnExactQuoteOk", fn := fun _ => fun
  | [d1, d2] => { results := [.lit (.bool false)], args := [d1, d2] }
  | _ => none }
def FnExactQuoteOkWrongFalsely : Prop := fnExactQuoteOkRow.holds Try.pinned (OpenSpec.ofChange fnExactQuoteOkWrong)

/-- 'laws.FnExactBookOk': WHATEVER THE INPUT: true; the input reads as it did. -/
def fnExactBookOkSpec : ChangeSpec := { name := "fnExactBookOk", fn := fun _ => fun
  | [d1, d2] => { results := [.lit (.bool true)], args := [d1, d2] }
  | _ => none }
def fnExactBookOkRow : OpenClaim := { program := "ytdgaakdlnihejaa", sum := "b9a67041e091a04ec8112d209b45fb55ddc27996055cf82ebfad9f08e4d48b86", func := "loop.example/fairbooks/laws.FnExactBookOk", spec := "fnExactBookOk", apart := false }
def FnExactBookOkSaid : Prop := fnExactBookOkRow.holds Try.pinned (OpenSpec.ofChange fnExactBookOkSpec)

/-- ITS FALSE NEIGHBOUR: 'it returns false'. Refute it at one input. -/
def fnExactBookOkWrong : ChangeSpec := { name := "fnExactBookOk", fn := fun _ => fun
  | [d1, d2] => { results := [.lit (.bool false)], args := [d1, d2] }
  | _ => none }
def FnExactBookOkWrongFalsely : Prop := fnExactBookOkRow.holds Try.pinned (OpenSpec.ofChange fnExactBookOkWrong)

/-- 'laws.FnExactGainOf': WHATEVER THE INPUT: true; the input reads as it did. -/
def fnExactGainOfSpec : ChangeSpec := { name := "fnExactGainOf", fn := fun _ => fun
  | [d1, d2, d3] => { results := [.lit (.bool true)], args := [d1, d2, d3] }
  | _ => none }
def fnExactGainOfRow : OpenClaim := { program := "ytdgaakdlnihejaa", sum := "b9a67041e091a04ec8112d209b45fb55ddc27996055cf82ebfad9f08e4d48b86", func := "loop.example/fairbooks/laws.FnExactGainOf", spec := "fnExactGainOf", apart := false }
def FnExactGainOfSaid : Prop := fnExactGainOfRow.holds Try.pinned (OpenSpec.ofChange fnExactGainOfSpec)

/-- ITS FALSE NEIGHBOUR: 'it returns false'. Refute it at one input. -/
def fnExactGainOfWrong : ChangeSpec := { name := "fnExactGainOf", fn := fun _ => fun
  | [d1, d2, d3] => { results := [.lit (.bool false)], args := [d1, d2, d3] }
  | _ => none }
def FnExactGainOfWrongFalsely : Prop := fnExactGainOfRow.holds Try.pinned (OpenSpec.ofChange fnExactGainOfWrong)

/-- 'laws.FnExactOtherQuote': WHATEVER THE INPUT: true; the input reads as it did. -/
def fnExactOtherQuoteSpec : ChangeSpec := { name := "fnExactOtherQuote", fn := fun _ => fun
  | [d1, d2] => { results := [.lit (.bool true)], args := [d1, d2] }
  | _ => none }
def fnExactOtherQuoteRow : OpenClaim := { program := "ytdgaakdlnihejaa", sum := "b9a67041e091a04ec8112d209b45fb55ddc27996055cf82ebfad9f08e4d48b86", func := "loop.example/fairbooks/laws.FnExactOtherQuote", spec := "fnExactOtherQuote", apart := false }
def FnExactOtherQuoteSaid : Prop := fnExactOtherQuoteRow.holds Try.pinned (OpenSpec.ofChange fnExactOtherQuoteSpec)

/-- ITS FALSE NEIGHBOUR: 'it returns false'. Refute it at one input. -/
def fnExactOtherQuoteWrong : ChangeSpec := { name := "fnExactOtherQuote", fn := fun _ => fun
  | [d1, d2] => { results := [.lit (.bool false)], args := [d1, d2] }
  | _ => none }
def FnExactOtherQuoteWrongFalsely : Prop := fnExactOtherQuoteRow.holds Try.pinned (OpenSpec.ofChange fnExactOtherQuoteWrong)

/-- 'laws.FnExactBalanceOf': WHATEVER THE INPUT: true; the input reads as it did. -/
def fnExactBalanceOfSpec : ChangeSpec := { name := "fnExactBalanceOf", fn := fun _ => fun
  | [d1, d2, d3] => { results := [.lit (.bool true)], args := [d1, d2, d3] }
  | _ => none }
def fnExactBalanceOfRow : OpenClaim := { program := "ytdgaakdlnihejaa", sum := "b9a67041e091a04ec8112d209b45fb55ddc27996055cf82ebfad9f08e4d48b86", func := "loop.example/fairbooks/laws.FnExactBalanceOf", spec := "fnExactBalanceOf", unfollowed := true, recurses := true, apart := false }
def FnExactBalanceOfSaid : Prop := fnExactBalanceOfRow.holds Try.pinned (OpenSpec.ofChange fnExactBalanceOfSpec)

/-- ITS FALSE NEIGHBOUR: 'it returns false'. Refute it at one input. -/
def fnExactBalanceOfWrong : ChangeSpec := { name := "fnExactBalanceOf", fn := fun _ => fun
  | [d1, d2, d3] => { results := [.lit (.bool false)], args := [d1, d2, d3] }
  | _ => none }
def FnExactBalanceOfWrongFalsely : Prop := fnExactBalanceOfRow.holds Try.pinned (OpenSpec.ofChange fnExactBalanceOfWrong)

/- THE SECOND FORM. 'bulk': how many values and letters a reading holds, each counted each time it is reached (what is shared counts as often as it is met; a slice's spare places count too). A statement '..UptoSaid' is the law's where the arguments, and the package variables that the reading takes, are together of bulk at most 1048576: NARROWER than '..Said'. Prove '..Said' where nothing that the law and all that it calls make is longer than what came in: it says more and counts as full. Else prove '..UptoSaid'. A law counts once. -/
mutual
def uptoBulk {H : Type} : DataW H → Nat
  | .lit (.string bytes) => bytes.length + 1
  | .lit _ => 1
  | .nil => 1
  | .ptr d => uptoBulk d + 1
  | .slice elems spare => uptoBulkAll elems + uptoBulkAll spare + 1
  | .agg parts => uptoBulkAll parts + 1
  | .iface _ d => uptoBulk d + 1
  | .map entries => uptoBulkEntries entries + 1
  | .held _ => 1
def uptoBulkAll {H : Type} : List (DataW H) → Nat
  | [] => 0
  | d :: r => uptoBulk d + uptoBulkAll r
def uptoBulkEntries {H : Type} : List (Lit × DataW H) → Nat
  | [] => 0
  | x :: r => uptoBulkEntry x + uptoBulkEntries r
def uptoBulkEntry {H : Type} : Lit × DataW H → Nat
  | (.string bytes, d) => bytes.length + uptoBulk d + 1
  | (_, d) => uptoBulk d + 1
 end
def uptoSmall : (H : Type) → List (DataW H) → Bool := fun _ ds => decide (uptoBulkAll ds ≤ 1048576)
def OpenSpec.upto (s : _root_.Go.ChangeSpec) : _root_.Go.OpenSpec := { _root_.Go.OpenSpec.ofChange s with cond := some uptoSmall }

/-- 'laws.FnQuoteOk', WHERE WHAT IT READS IS OF BULK AT MOST 1048576: true; the input reads as it did. -/
def fnQuoteOkUptoRow : OpenClaim := { program := "ytdgaakdlnihejaa", sum := "b9a67041e091a04ec8112d209b45fb55ddc27996055cf82ebfad9f08e4d48b86", func := "loop.example/fairbooks/laws.FnQuoteOk", spec := "fnQuoteOk", apart := false, narrowed := true }
def FnQuoteOkUptoSaid : Prop := fnQuoteOkUptoRow.holds Try.pinned (OpenSpec.upto fnQuoteOkSpec)

/-- 'laws.FnBookOk', WHERE WHAT IT READS IS OF BULK AT MOST 1048576: true; the input reads as it did. -/
def fnBookOkUptoRow : OpenClaim := { program := "ytdgaakdlnihejaa", sum := "b9a67041e091a04ec8112d209b45fb55ddc27996055cf82ebfad9f08e4d48b86", func := "loop.example/fairbooks/laws.FnBookOk", spec := "fnBookOk", apart := false, narrowed := true }
def FnBookOkUptoSaid : Prop := fnBookOkUptoRow.holds Try.pinned (OpenSpec.upto fnBookOkSpec)

/-- 'laws.FnGainOf', WHERE WHAT IT READS IS OF BULK AT MOST 1048576: true; the input reads as it did. -/
def fnGainOfUptoRow : OpenClaim := { program := "ytdgaakdlnihejaa", sum := "b9a67041e091a04ec8112d209b45fb55ddc27996055cf82ebfad9f08e4d48b86", func := "loop.example/fairbooks/laws.FnGainOf", spec := "fnGainOf", apart := false, narrowed := true }
def FnGainOfUptoSaid : Prop := fnGainOfUptoRow.holds Try.pinned (OpenSpec.upto fnGainOfSpec)

/-- 'laws.FnOtherQuote', WHERE WHAT IT READS IS OF BULK AT MOST 1048576: true; the input reads as it did. -/
def fnOtherQuoteUptoRow : OpenClaim := { program := "ytdgaakdlnihejaa", sum := "b9a67041e091a04ec8112d209b45fb55ddc27996055cf82ebfad9f08e4d48b86", func := "loop.example/fairbooks/laws.FnOtherQuote", spec := "fnOtherQuote", apart := false, narrowed := true }
def FnOtherQuoteUptoSaid : Prop := fnOtherQuoteUptoRow.holds Try.pinned (OpenSpec.upto fnOtherQuoteSpec)

/-- 'laws.FnBalanceOf', WHERE WHAT IT READS IS OF BULK AT MOST 1048576: true; the input reads as it did. -/
def fnBalanceOfUptoRow : OpenClaim := { program := "ytdgaakdlnihejaa", sum := "b9a67041e091a04ec8112d209b45fb55ddc27996055cf82ebfad9f08e4d48b86", func := "loop.example/fairbooks/laws.FnBalanceOf", spec := "fnBalanceOf", unfollowed := true, recurses := true, apart := false, narrowed := true }
def FnBalanceOfUptoSaid : Prop := fnBalanceOfUptoRow.holds Try.pinned (OpenSpec.upto fnBalanceOfSpec)

/-- 'laws.FnExactQuoteOk', WHERE WHAT IT READS IS OF BULK AT MOST 1048576: true; the input reads as it did. -/
def fnExactQuoteOkUptoRow : OpenClaim := { program := "ytdgaakdlnihejaa", sum := "b9a67041e091a04ec8112d209b45fb55ddc27996055cf82ebfad9f08e4d48b86", func := "loop.example/fairbooks/laws.FnExactQuoteOk", spec := "fnExactQuoteOk", apart := false, narrowed := true }
def FnExactQuoteOkUptoSaid : Prop := fnExactQuoteOkUptoRow.holds Try.pinned (OpenSpec.upto fnExactQuoteOkSpec)

/-- 'laws.FnExactBookOk', WHERE WHAT IT READS IS OF BULK AT MOST 1048576: true; the input reads as it did. -/
def fnExactBookOkUptoRow : OpenClaim := { program := "ytdgaakdlnihejaa", sum := "b9a67041e091a04ec8112d209b45fb55ddc27996055cf82ebfad9f08e4d48b86", func := "loop.example/fairbooks/laws.FnExactBookOk", spec := "fnExactBookOk", apart := false, narrowed := true }
def FnExactBookOkUptoSaid : Prop := fnExactBookOkUptoRow.holds Try.pinned (OpenSpec.upto fnExactBookOkSpec)

/-- 'laws.FnExactGainOf', WHERE WHAT IT READS IS OF BULK AT MOST 1048576: true; the input reads as it did. -/
def fnExactGainOfUptoRow : OpenClaim := { program := "ytdgaakdlnihejaa", sum := "b9a67041e091a04ec8112d209b45fb55ddc27996055cf82ebfad9f08e4d48b86", func := "loop.example/fairbooks/laws.FnExactGainOf", spec := "fnExactGainOf", apart := false, narrowed := true }
def FnExactGainOfUptoSaid : Prop := fnExactGainOfUptoRow.holds Try.pinned (OpenSpec.upto fnExactGainOfSpec)

/-- 'laws.FnExactOtherQuote', WHERE WHAT IT READS IS OF BULK AT MOST 1048576: true; the input reads as it did. -/
def fnExactOtherQuoteUptoRow : OpenClaim := { program := "ytdgaakdlnihejaa", sum := "b9a67041e091a04ec8112d209b45fb55ddc27996055cf82ebfad9f08e4d48b86", func := "loop.example/fairbooks/laws.FnExactOtherQuote", spec := "fnExactOtherQuote", apart := false, narrowed := true }
def FnExactOtherQuoteUptoSaid : Prop := fnExactOtherQuoteUptoRow.holds Try.pinned (OpenSpec.upto fnExactOtherQuoteSpec)

/-- 'laws.FnExactBalanceOf', WHERE WHAT IT READS IS OF BULK AT MOST 1048576: true; the input reads as it did. -/
def fnExactBalanceOfUptoRow : OpenClaim := { program := "ytdgaakdlnihejaa", sum := "b9a67041e091a04ec8112d209b45fb55ddc27996055cf82ebfad9f08e4d48b86", func := "loop.example/fairbooks/laws.FnExactBalanceOf", spec := "fnExactBalanceOf", unfollowed := true, recurses := true, apart := false, narrowed := true }
def FnExactBalanceOfUptoSaid : Prop := fnExactBalanceOfUptoRow.holds Try.pinned (OpenSpec.upto fnExactBalanceOfSpec)

end Rows
end Go.Proofs.Ytdgaakdlnihejaa
