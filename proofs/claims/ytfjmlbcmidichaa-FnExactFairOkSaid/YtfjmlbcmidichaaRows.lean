/-
  No cell of these rows narrows 'for every input' (looked for: loops, veiled, ifaces, maps, wideKeys, modest, calm, conditions, laid).
  DERIVED. THE GIVEN ROWS OF THIS SEAT. 14 by the template 'for every input the law returns true; each argument reads behind the call as it read before'; 0 by the template 'total and deterministic' (their statements: YtfjmlbcmidichaaTotals.lean).
  GIVEN WITH THE SEED: the statements are not yours to turn. If you find one false, say at which input.
  Laid BY PROGRAM, IN A SANDBOX (cutbox-rows.mjs): the forced cells as the released guide's own fill.sh prints them over the translation acd84163ab38b39f… (all of the seat's roots in one cut). By AI agents, Wed Nov 11 2026. No macro, syntax, notation, axiom, sorry.
-/
import Derived.Test.YtfjmlbcmidichaaChecked
import GoSem.Claim
import GoSem.ClaimJoined
import GoSem.ClaimMapViews
import Derived.JoinedTies
import Derived.KernelRfl
namespace Go.Proofs.Ytfjmlbcmidichaa
/- THE CELL 'sum', in the pinned program and in every row, IS THE sha256 OF THE DUMP (.gsa) THAT YtfjmlbcmidichaaProg.lean LOADS. Nothing in Lean hashes anything: it is a label: what it is worth is what the hold of that sum in a sandbox is worth. -/
noncomputable def Try.pinned : Pinned := { name := "ytfjmlbcmidichaa", sum := "acd84163ab38b39fae006e7792cb26e6057fb482af46cbed0ac9e82bdfb718b0", checked := Try.checked }
namespace Rows
def none {H : Type} : Left H := { results := [], args := [] }

/-- 'laws.FnFirstMeasure': WHATEVER THE INPUT: true; the input reads as it did. -/
def fnFirstMeasureSpec : ChangeSpec := { name := "fnFirstMeasure", fn := fun _ => fun
  | [d] => { results := [.lit (.bool true)], args := [d] }
  | _ => none }
def fnFirstMeasureRow : OpenClaim := { program := "ytfjmlbcmidichaa", sum := "acd84163ab38b39fae006e7792cb26e6057fb482af46cbed0ac9e82bdfb718b0", func := "loop.example/fairbooks/laws.FnFirstMeasure", spec := "fnFirstMeasure", unfollowed := true, recurses := true, apart := false }
def FnFirstMeasureSaid : Prop := fnFirstMeasureRow.holds Try.pinned (OpenSpec.ofChange fnFirstMeasureSpec)

/-- ITS FALSE NEIGHBOUR: 'it returns false'. Refute it at one input. -/
def fnFirstMeasureWrong : ChangeSpec := { name := "fnFirstMeasure", fn := fun _ => fun
  | [d] => { results := [.lit (.bool false)], args := [d] }
  | _ => none }
def FnFirstMeasureWrongFalsely : Prop := fnFirstMeasureRow.holds Try.pinned (OpenSpec.ofChange fnFirstMeasureWrong)

/-- 'laws.FnFairOk': WHATEVER THE INPUT: true; the input reads as it did. -/
def fnFairOkSpec : ChangeSpec := { name := "fnFairOk", fn := fun _ => fun
  | [d] => { results := [.lit (.bool true)], args := [d] }
  | _ => none }
def fnFairOkRow : OpenClaim := { program := "ytfjmlbcmidichaa", sum := "acd84163ab38b39fae006e7792cb26e6057fb482af46cbed0ac9e82bdfb718b0", func := "loop.example/fairbooks/laws.FnFairOk", spec := "fnFairOk", unfollowed := true, recurses := true, apart := false }
def FnFairOkSaid : Prop := fnFairOkRow.holds Try.pinned (OpenSpec.ofChange fnFairOkSpec)

/-- ITS FALSE NEIGHBOUR: 'it returns false'. Refute it at one input. -/
def fnFairOkWrong : ChangeSpec := { name := "fnFairOk", fn := fun _ => fun
  | [d] => { results := [.lit (.bool false)], args := [d] }
  | _ => none }
def FnFairOkWrongFalsely : Prop := fnFairOkRow.holds Try.pinned (OpenSpec.ofChange fnFairOkWrong)

/-- 'laws.FnCountMeasures': WHATEVER THE INPUT: true; the input reads as it did. -/
def fnCountMeasuresSpec : ChangeSpec := { name := "fnCountMeasures", fn := fun _ => fun
  | [d] => { results := [.lit (.bool true)], args := [d] }
  | _ => none }
def fnCountMeasuresRow : OpenClaim := { program := "ytfjmlbcmidichaa", sum := "acd84163ab38b39fae006e7792cb26e6057fb482af46cbed0ac9e82bdfb718b0", func := "loop.example/fairbooks/laws.FnCountMeasures", spec := "fnCountMeasures", unfollowed := true, recurses := true, apart := false }
def FnCountMeasuresSaid : Prop := fnCountMeasuresRow.holds Try.pinned (OpenSpec.ofChange fnCountMeasuresSpec)

/-- ITS FALSE NEIGHBOUR: 'it returns false'. Refute it at one input. -/
def fnCountMeasuresWrong : ChangeSpec := { name := "fnCountMeasures", fn := fun _ => fun
  | [d] => { results := [.lit (.bool false)], args := [d] }
  | _ => none }
def FnCountMeasuresWrongFalsely : Prop := fnCountMeasuresRow.holds Try.pinned (OpenSpec.ofChange fnCountMeasuresWrong)

/-- 'laws.FnExactFirstMeasure': WHATEVER THE INPUT: true; the input reads as it did. -/
def fnExactFirstMeasureSpec : ChangeSpec := { name := "fnExactFirstMeasure", fn := fun _ => fun
  | [d1, d2] => { results := [.lit (.bool true)], args := [d1, d2] }
  | _ => none }
def fnExactFirstMeasureRow : OpenClaim := { program := "ytfjmlbcmidichaa", sum := "acd84163ab38b39fae006e7792cb26e6057fb482af46cbed0ac9e82bdfb718b0", func := "loop.example/fairbooks/laws.FnExactFirstMeasure", spec := "fnExactFirstMeasure", unfollowed := true, recurses := true, apart := false }
def FnExactFirstMeasureSaid : Prop := fnExactFirstMeasureRow.holds Try.pinned (OpenSpec.ofChange fnExactFirstMeasureSpec)

/-- ITS FALSE NEIGHBOUR: 'it returns false'. Refute it at one input. -/
def fnExactFirstMeasureWrong : ChangeSpec := { name := "fnExactFirstMeasure", fn := fun _ => fun
  | [d1, d2] => { results := [.lit (.bool false)], args := [d1, d2] }
  | _ => none }
def FnExactFirstMeasureWrongFalsely : Prop := fnExactFirstMeasureRow.holds Try.pinned (OpenSpec.ofChange fnExactFirstMeasureWrong)

/-- 'laws.FnExactFairOk': WHATEVER THE INPUT: true; the input reads as it did. -/
def fnExactFairOkSpec : ChangeSpec := { name := "fnExactFairOk", fn := fun _ => fun
  | [d1, d2] => { results := [.lit (.bool true)], args := [d1, d2] }
  | _ => none }
def fnExactFairOkRow : OpenClaim := { program := "ytfjmlbcmidichaa", sum := "acd84163ab38b39fae006e7792cb26e6057fb482af46cbed0ac9e82bdfb718b0", func := "loop.example/fairbooks/laws.FnExactFairOk", spec := "fnExactFairOk", unfollowed := true, recurses := true, apart := false }
def FnExactFairOkSaid : Prop := fnExactFairOkRow.holds Try.pinned (OpenSpec.ofChange fnExactFairOkSpec)

/-- ITS FALSE NEIGHBOUR: 'it returns false'. Refute it at one input. -/
def fnExactFairOkWrong : ChangeSpec := { name := "fnExactFairOk", fn := fun _ => fun
  | [d1, d2] => { results := [.lit (.bool false)], args := [d1, d2] }
  | _ => none }
def FnExactFairOkWrongFalsely : Prop := fnExactFairOkRow.holds Try.pinned (OpenSpec.ofChange fnExactFairOkWrong)

/-- 'laws.FnExactCountMeasures': WHATEVER THE INPUT: true; the input reads as it did. -/
def fnExactCountMeasuresSpec : ChangeSpec := { name := "fnExactCountMeasures", fn := fun _ => fun
  | [d1, d2] => { results := [.lit (.bool true)], args := [d1, d2] }
  | _ => none }
def fnExactCountMeasuresRow : OpenClaim := { program := "ytfjmlbcmidichaa", sum := "acd84163ab38b39fae006e7792cb26e6057fb482af46cbed0ac9e82bdfb718b0", func := "loop.example/fairbooks/laws.FnExactCountMeasures", spec := "fnExactCountMeasures", unfollowed := true, recurses := true, apart := false }
def FnExactCountMeasuresSaid : Prop := fnExactCountMeasuresRow.holds Try.pinned (OpenSpec.ofChange fnExactCountMeasuresSpec)

/-- ITS FALSE NEIGHBOUR: 'it returns false'. Refute it at one input. -/
def fnExactCountMeasuresWrong : ChangeSpec := { name := "fnExactCountMeasures", fn := fun _ => fun
  | [d1, d2] => { results := [.lit (.bool false)], args := [d1, d2] }
  | _ => none }
def FnExactCountMeasuresWrongFalsely : Prop := fnExactCountMeasuresRow.holds Try.pinned (OpenSpec.ofChange fnExactCountMeasuresWrong)

/-- 'laws.FnLosesBy': WHATEVER THE INPUT: true; the input reads as it did. -/
def fnLosesBySpec : ChangeSpec := { name := "fnLosesBy", fn := fun _ => fun
  | [d] => { results := [.lit (.bool true)], args := [d] }
  | _ => none }
def fnLosesByRow : OpenClaim := { program := "ytfjmlbcmidichaa", sum := "acd84163ab38b39fae006e7792cb26e6057fb482af46cbed0ac9e82bdfb718b0", func := "loop.example/fairbooks/laws.FnLosesBy", spec := "fnLosesBy", unfollowed := true, recurses := true, apart := false }
def FnLosesBySaid : Prop := fnLosesByRow.holds Try.pinned (OpenSpec.ofChange fnLosesBySpec)

/-- ITS FALSE NEIGHBOUR: 'it returns false'. Refute it at one input. -/
def fnLosesByWrong : ChangeSpec := { name := "fnLosesBy", fn := fun _ => fun
  | [d] => { results := [.lit (.bool false)], args := [d] }
  | _ => none }
def FnLosesByWrongFalsely : Prop := fnLosesByRow.holds Try.pinned (OpenSpec.ofChange fnLosesByWrong)

/-- 'laws.FnLosingStakes': WHATEVER THE INPUT: true; the input reads as it did. -/
def fnLosingStakesSpec : ChangeSpec := { name := "fnLosingStakes", fn := fun _ => fun
  | [d] => { results := [.lit (.bool true)], args := [d] }
  | _ => none }
def fnLosingStakesRow : OpenClaim := { program := "ytfjmlbcmidichaa", sum := "acd84163ab38b39fae006e7792cb26e6057fb482af46cbed0ac9e82bdfb718b0", func := "loop.example/fairbooks/laws.FnLosingStakes", spec := "fnLosingStakes", unfollowed := true, recurses := true, apart := false }
def FnLosingStakesSaid : Prop := fnLosingStakesRow.holds Try.pinned (OpenSpec.ofChange fnLosingStakesSpec)

/-- ITS FALSE NEIGHBOUR: 'it returns false'. Refute it at one input. -/
def fnLosingStakesWrong : ChangeSpec := { name := "fnLosingStakes", fn := fun _ => fun
  | [d] => { results := [.lit (.bool false)], args := [d] }
  | _ => none }
def FnLosingStakesWrongFalsely : Prop := fnLosingStakesRow.holds Try.pinned (OpenSpec.ofChange fnLosingStakesWrong)

/-- 'laws.FnSafeOk': WHATEVER THE INPUT: true; the input reads as it did. -/
def fnSafeOkSpec : ChangeSpec := { name := "fnSafeOk", fn := fun _ => fun
  | [d] => { results := [.lit (.bool true)], args := [d] }
  | _ => none }
def fnSafeOkRow : OpenClaim := { program := "ytfjmlbcmidichaa", sum := "acd84163ab38b39fae006e7792cb26e6057fb482af46cbed0ac9e82bdfb718b0", func := "loop.example/fairbooks/laws.FnSafeOk", spec := "fnSafeOk", unfollowed := true, recurses := true, apart := false }
def FnSafeOkSaid : Prop := fnSafeOkRow.holds Try.pinned (OpenSpec.ofChange fnSafeOkSpec)

/-- ITS FALSE NEIGHBOUR: 'it returns false'. Refute it at one input. -/
def fnSafeOkWrong : ChangeSpec := { name := "fnSafeOk", fn := fun _ => fun
  | [d] => { results := [.lit (.bool false)], args := [d] }
  | _ => none }
def FnSafeOkWrongFalsely : Prop := fnSafeOkRow.holds Try.pinned (OpenSpec.ofChange fnSafeOkWrong)

/-- 'laws.FnSureLossOf': WHATEVER THE INPUT: true; the input reads as it did. -/
def fnSureLossOfSpec : ChangeSpec := { name := "fnSureLossOf", fn := fun _ => fun
  | [d] => { results := [.lit (.bool true)], args := [d] }
  | _ => none }
def fnSureLossOfRow : OpenClaim := { program := "ytfjmlbcmidichaa", sum := "acd84163ab38b39fae006e7792cb26e6057fb482af46cbed0ac9e82bdfb718b0", func := "loop.example/fairbooks/laws.FnSureLossOf", spec := "fnSureLossOf", unfollowed := true, recurses := true, apart := false }
def FnSureLossOfSaid : Prop := fnSureLossOfRow.holds Try.pinned (OpenSpec.ofChange fnSureLossOfSpec)

/-- ITS FALSE NEIGHBOUR: 'it returns false'. Refute it at one input. -/
def fnSureLossOfWrong : ChangeSpec := { name := "fnSureLossOf", fn := fun _ => fun
  | [d] => { results := [.lit (.bool false)], args := [d] }
  | _ => none }
def FnSureLossOfWrongFalsely : Prop := fnSureLossOfRow.holds Try.pinned (OpenSpec.ofChange fnSureLossOfWrong)

/-- 'laws.FnTwoPrices': WHATEVER THE INPUT: true; the input reads as it did. -/
def fnTwoPricesSpec : ChangeSpec := { name := "fnTwoPrices", fn := fun _ => fun
  | [d] => { results := [.lit (.bool true)], args := [d] }
  | _ => none }
def fnTwoPricesRow : OpenClaim := { program := "ytfjmlbcmidichaa", sum := "acd84163ab38b39fae006e7792cb26e6057fb482af46cbed0ac9e82bdfb718b0", func := "loop.example/fairbooks/laws.FnTwoPrices", spec := "fnTwoPrices", unfollowed := true, recurses := true, apart := false }
def FnTwoPricesSaid : Prop := fnTwoPricesRow.holds Try.pinned (OpenSpec.ofChange fnTwoPricesSpec)

/-- ITS FALSE NEIGHBOUR: 'it returns false'. Refute it at one input. -/
def fnTwoPricesWrong : ChangeSpec := { name := "fnTwoPrices", fn := fun _ => fun
  | [d] => { results := [.lit (.bool false)], args := [d] }
  | _ => none }
def FnTwoPricesWrongFalsely : Prop := fnTwoPricesRow.holds Try.pinned (OpenSpec.ofChange fnTwoPricesWrong)

/-- 'laws.FnExactLosingStakes': WHATEVER THE INPUT: true; the input reads as it did. -/
def fnExactLosingStakesSpec : ChangeSpec := { name := "fnExactLosingStakes", fn := fun _ => fun
  | [d1, d2] => { results := [.lit (.bool true)], args := [d1, d2] }
  | _ => none }
def fnExactLosingStakesRow : OpenClaim := { program := "ytfjmlbcmidichaa", sum := "acd84163ab38b39fae006e7792cb26e6057fb482af46cbed0ac9e82bdfb718b0", func := "loop.example/fairbooks/laws.FnExactLosingStakes", spec := "fnExactLosingStakes", unfollowed := true, recurses := true, apart := false }
def FnExactLosingStakesSaid : Prop := fnExactLosingStakesRow.holds Try.pinned (OpenSpec.ofChange fnExactLosingStakesSpec)

/-- ITS FALSE NEIGHBOUR: 'it returns false'. Refute it at one input. -/
def fnExactLosingStakesWrong : ChangeSpec := { name := "fnExactLosingStakes", fn := fun _ => fun
  | [d1, d2] => { results := [.lit (.bool false)], args := [d1, d2] }
  | _ => none }
def FnExactLosingStakesWrongFalsely : Prop := fnExactLosingStakesRow.holds Try.pinned (OpenSpec.ofChange fnExactLosingStakesWrong)

/-- 'laws.FnExactSafeOk': WHATEVER THE INPUT: true; the input reads as it did. -/
def fnExactSafeOkSpec : ChangeSpec := { name := "fnExactSafeOk", fn := fun _ => fun
  | [d1, d2] => { results := [.lit (.bool true)], args := [d1, d2] }
  | _ => none }
def fnExactSafeOkRow : OpenClaim := { program := "ytfjmlbcmidichaa", sum := "acd84163ab38b39fae006e7792cb26e6057fb482af46cbed0ac9e82bdfb718b0", func := "loop.example/fairbooks/laws.FnExactSafeOk", spec := "fnExactSafeOk", unfollowed := true, recurses := true, apart := false }
def FnExactSafeOkSaid : Prop := fnExactSafeOkRow.holds Try.pinned (OpenSpec.ofChange fnExactSafeOkSpec)

/-- ITS FALSE NEIGHBOUR: 'it returns false'. Refute it at one input. -/
def fnExactSafeOkWrong : ChangeSpec := { name := "fnExactSafeOk", fn := fun _ => fun
  | [d1, d2] => { results := [.lit (.bool false)], args := [d1, d2] }
  | _ => none }
def FnExactSafeOkWrongFalsely : Prop := fnExactSafeOkRow.holds Try.pinned (OpenSpec.ofChange fnExactSafeOkWrong)

/-- 'laws.FnExactSureLossOf': WHATEVER THE INPUT: true; the input reads as it did. -/
def fnExactSureLossOfSpec : ChangeSpec := { name := "fnExactSureLossOf", fn := fun _ => fun
  | [d1, d2] => { results := [.lit (.bool true)], args := [d1, d2] }
  | _ => none }
def fnExactSureLossOfRow : OpenClaim := { program := "ytfjmlbcmidichaa", sum := "acd84163ab38b39fae006e7792cb26e6057fb482af46cbed0ac9e82bdfb718b0", func := "loop.example/fairbooks/laws.FnExactSureLossOf", spec := "fnExactSureLossOf", unfollowed := true, recurses := true, apart := false }
def FnExactSureLossOfSaid : Prop := fnExactSureLossOfRow.holds Try.pinned (OpenSpec.ofChange fnExactSureLossOfSpec)

/-- ITS FALSE NEIGHBOUR: 'it returns false'. Refute it at one input. -/
def fnExactSureLossOfWrong : ChangeSpec := { name := "fnExactSureLossOf", fn := fun _ => fun
  | [d1, d2] => { results := [.lit (.bool false)], args := [d1, d2] }
  | _ => none }
def FnExactSureLossOfWrongFalsely : Prop := fnExactSureLossOfRow.holds Try.pinned (OpenSpec.ofChange fnExactSureLossOfWrong)

/- THE SECOND FORM. 'bulk': how many values and letters a reading holds, each counted each time it is reached (what is shared counts as often as it is met; a slice's spare places count too). A statement '..UptoSaid' is the law's where the arguments, and the package variables that the reading takes, are together of bulk at most 1048576: NARROWER than '..Said'. Prove '..Said' where nothing that the law and all that it calls make is longer than what came in: it says more and counts as full. Else prove '..UptoSaid'. A law counts once. -/
mutual
def uptoBulk {H : Type} : DataW H → Nat
  | .lit (.string bytes) => bytes.length + 1
  | .lit _ => 1
  | .nil => 1
  | .ptr d => uptoBulk d + 1
  | .slice elems spare => uptoBulkAll elems + uptoBulkAll spare + 1
  | .agg parts => uptoBulkAll parts + 1
  | .iface _ d => uptoBulk d + 1
  | .map entries => uptoBulkEntries entries + 1
  | .held _ => 1
def uptoBulkAll {H : Type} : List (DataW H) → Nat
  | [] => 0
  | d :: r => uptoBulk d + uptoBulkAll r
def uptoBulkEntries {H : Type} : List (Lit × DataW H) → Nat
  | [] => 0
  | x :: r => uptoBulkEntry x + uptoBulkEntries r
def uptoBulkEntry {H : Type} : Lit × DataW H → Nat
  | (.string bytes, d) => bytes.length + uptoBulk d + 1
  | (_, d) => uptoBulk d + 1
 end
def uptoSmall : (H : Type) → List (DataW H) → Bool := fun _ ds => decide (uptoBulkAll ds ≤ 1048576)
def OpenSpec.upto (s : _root_.Go.ChangeSpec) : _root_.Go.OpenSpec := { _root_.Go.OpenSpec.ofChange s with cond := some uptoSmall }

/-- 'laws.FnFirstMeasure', WHERE WHAT IT READS IS OF BULK AT MOST 1048576: true; the input reads as it did. -/
def fnFirstMeasureUptoRow : OpenClaim := { program := "ytfjmlbcmidichaa", sum := "acd84163ab38b39fae006e7792cb26e6057fb482af46cbed0ac9e82bdfb718b0", func := "loop.example/fairbooks/laws.FnFirstMeasure", spec := "fnFirstMeasure", unfollowed := true, recurses := true, apart := false, narrowed := true }
def FnFirstMeasureUptoSaid : Prop := fnFirstMeasureUptoRow.holds Try.pinned (OpenSpec.upto fnFirstMeasureSpec)

/-- 'laws.FnFairOk', WHERE WHAT IT READS IS OF BULK AT MOST 1048576: true; the input reads as it did. -/
def fnFairOkUptoRow : OpenClaim := { program := "ytfjmlbcmidichaa", sum := "acd84163ab38b39fae006e7792cb26e6057fb482af46cbed0ac9e82bdfb718b0", func := "loop.example/fairbooks/laws.FnFairOk", spec := "fnFairOk", unfollowed := true, recurses := true, apart := false, narrowed := true }
def FnFairOkUptoSaid : Prop := fnFairOkUptoRow.holds Try.pinned (OpenSpec.upto fnFairOkSpec)

/-- 'laws.FnCountMeasures', WHERE WHAT IT READS IS OF BULK AT MOST 1048576: true; the input reads as it did. -/
def fnCountMeasuresUptoRow : OpenClaim := { program := "ytfjmlbcmidichaa", sum := "acd84163ab38b39fae006e7792cb26e6057fb482af46cbed0ac9e82bdfb718b0", func := "loop.example/fairbooks/laws.FnCountMeasures", spec := "fnCountMeasures", unfollowed := true, recurses := true, apart := false, narrowed := true }
def FnCountMeasuresUptoSaid : Prop := fnCountMeasuresUptoRow.holds Try.pinned (OpenSpec.upto fnCountMeasuresSpec)

/-- 'laws.FnExactFirstMeasure', WHERE WHAT IT READS IS OF BULK AT MOST 1048576: true; the input reads as it did. -/
def fnExactFirstMeasureUptoRow : OpenClaim := { program := "ytfjmlbcmidichaa", sum := "acd84163ab38b39fae006e7792cb26e6057fb482af46cbed0ac9e82bdfb718b0", func := "loop.example/fairbooks/laws.FnExactFirstMeasure", spec := "fnExactFirstMeasure", unfollowed := true, recurses := true, apart := false, narrowed := true }
def FnExactFirstMeasureUptoSaid : Prop := fnExactFirstMeasureUptoRow.holds Try.pinned (OpenSpec.upto fnExactFirstMeasureSpec)

/-- 'laws.FnExactFairOk', WHERE WHAT IT READS IS OF BULK AT MOST 1048576: true; the input reads as it did. -/
def fnExactFairOkUptoRow : OpenClaim := { program := "ytfjmlbcmidichaa", sum := "acd84163ab38b39fae006e7792cb26e6057fb482af46cbed0ac9e82bdfb718b0", func := "loop.example/fairbooks/laws.FnExactFairOk", spec := "fnExactFairOk", unfollowed := true, recurses := true, apart := false, narrowed := true }
def FnExactFairOkUptoSaid : Prop := fnExactFairOkUptoRow.holds Try.pinned (OpenSpec.upto fnExactFairOkSpec)

/-- 'laws.FnExactCountMeasures', WHERE WHAT IT READS IS OF BULK AT MOST 1048576: true; the input reads as it did. -/
def fnExactCountMeasuresUptoRow : OpenClaim := { program := "ytfjmlbcmidichaa", sum := "acd84163ab38b39fae006e7792cb26e6057fb482af46cbed0ac9e82bdfb718b0", func := "loop.example/fairbooks/laws.FnExactCountMeasures", spec := "fnExactCountMeasures", unfollowed := true, recurses := true, apart := false, narrowed := true }
def FnExactCountMeasuresUptoSaid : Prop := fnExactCountMeasuresUptoRow.holds Try.pinned (OpenSpec.upto fnExactCountMeasuresSpec)

/-- 'laws.FnLosesBy', WHERE WHAT IT READS IS OF BULK AT MOST 1048576: true; the input reads as it did. -/
def fnLosesByUptoRow : OpenClaim := { program := "ytfjmlbcmidichaa", sum := "acd84163ab38b39fae006e7792cb26e6057fb482af46cbed0ac9e82bdfb718b0", func := "loop.example/fairbooks/laws.FnLosesBy", spec := "fnLosesBy", unfollowed := true, recurses := true, apart := false, narrowed := true }
def FnLosesByUptoSaid : Prop := fnLosesByUptoRow.holds Try.pinned (OpenSpec.upto fnLosesBySpec)

/-- 'laws.FnLosingStakes', WHERE WHAT IT READS IS OF BULK AT MOST 1048576: true; the input reads as it did. -/
def fnLosingStakesUptoRow : OpenClaim := { program := "ytfjmlbcmidichaa", sum := "acd84163ab38b39fae006e7792cb26e6057fb482af46cbed0ac9e82bdfb718b0", func := "loop.example/fairbooks/laws.FnLosingStakes", spec := "fnLosingStakes", unfollowed := true, recurses := true, apart := false, narrowed := true }
def FnLosingStakesUptoSaid : Prop := fnLosingStakesUptoRow.holds Try.pinned (OpenSpec.upto fnLosingStakesSpec)

/-- 'laws.FnSafeOk', WHERE WHAT IT READS IS OF BULK AT MOST 1048576: true; the input reads as it did. -/
def fnSafeOkUptoRow : OpenClaim := { program := "ytfjmlbcmidichaa", sum := "acd84163ab38b39fae006e7792cb26e6057fb482af46cbed0ac9e82bdfb718b0", func := "loop.example/fairbooks/laws.FnSafeOk", spec := "fnSafeOk", unfollowed := true, recurses := true, apart := false, narrowed := true }
def FnSafeOkUptoSaid : Prop := fnSafeOkUptoRow.holds Try.pinned (OpenSpec.upto fnSafeOkSpec)

/-- 'laws.FnSureLossOf', WHERE WHAT IT READS IS OF BULK AT MOST 1048576: true; the input reads as it did. -/
def fnSureLossOfUptoRow : OpenClaim := { program := "ytfjmlbcmidichaa", sum := "acd84163ab38b39fae006e7792cb26e6057fb482af46cbed0ac9e82bdfb718b0", func := "loop.example/fairbooks/laws.FnSureLossOf", spec := "fnSureLossOf", unfollowed := true, recurses := true, apart := false, narrowed := true }
def FnSureLossOfUptoSaid : Prop := fnSureLossOfUptoRow.holds Try.pinned (OpenSpec.upto fnSureLossOfSpec)

/-- 'laws.FnTwoPrices', WHERE WHAT IT READS IS OF BULK AT MOST 1048576: true; the input reads as it did. -/
def fnTwoPricesUptoRow : OpenClaim := { program := "ytfjmlbcmidichaa", sum := "acd84163ab38b39fae006e7792cb26e6057fb482af46cbed0ac9e82bdfb718b0", func := "loop.example/fairbooks/laws.FnTwoPrices", spec := "fnTwoPrices", unfollowed := true, recurses := true, apart := false, narrowed := true }
def FnTwoPricesUptoSaid : Prop := fnTwoPricesUptoRow.holds Try.pinned (OpenSpec.upto fnTwoPricesSpec)

/-- 'laws.FnExactLosingStakes', WHERE WHAT IT READS IS OF BULK AT MOST 1048576: true; the input reads as it did. -/
def fnExactLosingStakesUptoRow : OpenClaim := { program := "ytfjmlbcmidichaa", sum := "acd84163ab38b39fae006e7792cb26e6057fb482af46cbed0ac9e82bdfb718b0", func := "loop.example/fairbooks/laws.FnExactLosingStakes", spec := "fnExactLosingStakes", unfollowed := true, recurses := true, apart := false, narrowed := true }
def FnExactLosingStakesUptoSaid : Prop := fnExactLosingStakesUptoRow.holds Try.pinned (OpenSpec.upto fnExactLosingStakesSpec)

/-- 'laws.FnExactSafeOk', WHERE WHAT IT READS IS OF BULK AT MOST 1048576: true; the input reads as it did. -/
def fnExactSafeOkUptoRow : OpenClaim := { program := "ytfjmlbcmidichaa", sum := "acd84163ab38b39fae006e7792cb26e6057fb482af46cbed0ac9e82bdfb718b0", func := "loop.example/fairbooks/laws.FnExactSafeOk", spec := "fnExactSafeOk", unfollowed := true, recurses := true, apart := false, narrowed := true }
def FnExactSafeOkUptoSaid : Prop := fnExactSafeOkUptoRow.holds Try.pinned (OpenSpec.upto fnExactSafeOkSpec)

/-- 'laws.FnExactSureLossOf', WHERE WHAT IT READS IS OF BULK AT MOST 1048576: true; the input reads as it did. -/
def fnExactSureLossOfUptoRow : OpenClaim := { program := "ytfjmlbcmidichaa", sum := "acd84163ab38b39fae006e7792cb26e6057fb482af46cbed0ac9e82bdfb718b0", func := "loop.example/fairbooks/laws.FnExactSureLossOf", spec := "fnExactSureLossOf", unfollowed := true, recurses := true, apart := false, narrowed := true }
def FnExactSureLossOfUptoSaid : Prop := fnExactSureLossOfUptoRow.holds Try.pinned (OpenSpec.upto fnExactSureLossOfSpec)

end Rows
end Go.Proofs.Ytfjmlbcmidichaa
