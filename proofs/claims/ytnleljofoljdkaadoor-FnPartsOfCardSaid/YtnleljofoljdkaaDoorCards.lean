/-
  DERIVED. GIVEN WITH THE SEED: THE CARDS: each row of YtnleljofoljdkaaDoorRows.lean that lists a variable, with what it lists TIED to the program's text (the seventh form; the later family's looks); each row that meets fmt, with fmt's text TOLD by the authors' own Lean function (tested against real Go, not proved from fmt's source: count such statements apart). THE CARD IS WHAT COUNTS. Prove the row's statement (the work); the ties are given (YtnleljofoljdkaaDoorTie.lean); close each card by the builder's one call (the guide's Derived/Test/ToyasCard.lean, 'card_holds'). Laid BY PROGRAM, IN A SANDBOX (cutbox-door.mjs). By AI agents, Wed Nov 11 2026. No macro, syntax, notation, axiom, sorry.
-/
import Derived.Test.YtnleljofoljdkaaDoorRows
import GoSem.ClaimSeven
namespace Go.Proofs.YtnleljofoljdkaaDoor
namespace Rows

/-- THE TIED CARD OF 'laws.FnPartsOf'. -/
def fnPartsOfCard : Claim7 := { stood := { row := fnPartsOfRow, standIns := [], harness := (true, "7350eaa1db6c2fea4227929df4f4c2723cfe39b4faf9b86d3451a9d676bf4605"), looks := false }, kinds := [], alts := [], laidByText := true, laidKinds := [.data, .data], laidTests := true, laidLooks := .later }
def FnPartsOfCardSaid : Prop := Claim7.holds Tryd.pinned (.plain (OpenSpec.ofChange fnPartsOfSpec)) fnPartsOfCard

/-- THE TIED CARD OF 'laws.FnExactPartsOf'. -/
def fnExactPartsOfCard : Claim7 := { stood := { row := fnExactPartsOfRow, standIns := [], harness := (true, "7350eaa1db6c2fea4227929df4f4c2723cfe39b4faf9b86d3451a9d676bf4605"), looks := false }, kinds := [], alts := [], laidByText := true, laidKinds := [.data, .data], laidTests := true, laidLooks := .later }
def FnExactPartsOfCardSaid : Prop := Claim7.holds Tryd.pinned (.plain (OpenSpec.ofChange fnExactPartsOfSpec)) fnExactPartsOfCard

/-- THE SECOND FORM's CARD OF 'laws.FnPartsOf'. -/
def fnPartsOfUptoCard : Claim7 := { stood := { row := fnPartsOfUptoRow, standIns := [], harness := (true, "7350eaa1db6c2fea4227929df4f4c2723cfe39b4faf9b86d3451a9d676bf4605"), looks := false }, kinds := [], alts := [], laidByText := true, laidKinds := [.data, .data], laidTests := true, laidLooks := .later }
def FnPartsOfUptoCardSaid : Prop := Claim7.holds Tryd.pinned (.plain (OpenSpec.upto fnPartsOfSpec)) fnPartsOfUptoCard

/-- THE SECOND FORM's CARD OF 'laws.FnExactPartsOf'. -/
def fnExactPartsOfUptoCard : Claim7 := { stood := { row := fnExactPartsOfUptoRow, standIns := [], harness := (true, "7350eaa1db6c2fea4227929df4f4c2723cfe39b4faf9b86d3451a9d676bf4605"), looks := false }, kinds := [], alts := [], laidByText := true, laidKinds := [.data, .data], laidTests := true, laidLooks := .later }
def FnExactPartsOfUptoCardSaid : Prop := Claim7.holds Tryd.pinned (.plain (OpenSpec.upto fnExactPartsOfSpec)) fnExactPartsOfUptoCard
end Rows
end Go.Proofs.YtnleljofoljdkaaDoor
