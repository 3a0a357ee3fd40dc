/-
  DERIVED. GIVEN WITH THE SEED: THE CARDS: each row of YtfdlfgokoponmaaDoorRows.lean that lists a variable, with what it lists TIED to the program's text (the seventh form; the later family's looks); each row that meets fmt, with fmt's text TOLD by the authors' own Lean function (tested against real Go, not proved from fmt's source: count such statements apart). THE CARD IS WHAT COUNTS. Prove the row's statement (the work); the ties are given (YtfdlfgokoponmaaDoorTie.lean); close each card by the builder's one call (the guide's Derived/Test/ToyasCard.lean, 'card_holds'). Laid BY PROGRAM, IN A SANDBOX (cutbox-door.mjs). By AI agents, Wed Nov 11 2026. No macro, syntax, notation, axiom, sorry.
-/
import Derived.Test.YtfdlfgokoponmaaDoorRows
import GoSem.ClaimSeven
namespace Go.Proofs.YtfdlfgokoponmaaDoor
namespace Rows

/-- THE TIED CARD OF 'laws.FnWagerText'. -/
def fnWagerTextCard : Claim7 := { stood := { row := fnWagerTextRow, standIns := [], harness := (true, "855452e4e0b551f8d3de10fb50fa6c99c28839189341ae8bc71ac90cde73ecea"), looks := true }, kinds := [], alts := [], laidByText := true, laidKinds := [.data, .data, .data, .sentinel, .sentinel], laidTests := true, laidLooks := .later }
def FnWagerTextCardSaid : Prop := Claim7.holds Tryd.pinned (.plain (OpenSpec.ofChange fnWagerTextSpec)) fnWagerTextCard

/-- THE TIED CARD OF 'laws.FnReadWager'. -/
def fnReadWagerCard : Claim7 := { stood := { row := fnReadWagerRow, standIns := [], harness := (true, "855452e4e0b551f8d3de10fb50fa6c99c28839189341ae8bc71ac90cde73ecea"), looks := true }, kinds := [], alts := [], laidByText := true, laidKinds := [.data, .data, .data, .sentinel, .sentinel], laidTests := true, laidLooks := .later }
def FnReadWagerCardSaid : Prop := Claim7.holds Tryd.pinned (.plain (OpenSpec.ofChange fnReadWagerSpec)) fnReadWagerCard

/-- THE TIED CARD OF 'laws.FnExactWagerText'. -/
def fnExactWagerTextCard : Claim7 := { stood := { row := fnExactWagerTextRow, standIns := [], harness := (true, "855452e4e0b551f8d3de10fb50fa6c99c28839189341ae8bc71ac90cde73ecea"), looks := true }, kinds := [], alts := [], laidByText := true, laidKinds := [.data, .data, .data], laidTests := true, laidLooks := .later }
def FnExactWagerTextCardSaid : Prop := Claim7.holds Tryd.pinned (.plain (OpenSpec.ofChange fnExactWagerTextSpec)) fnExactWagerTextCard

/-- THE TIED CARD OF 'laws.FnExactReadWager'. -/
def fnExactReadWagerCard : Claim7 := { stood := { row := fnExactReadWagerRow, standIns := [], harness := (true, "855452e4e0b551f8d3de10fb50fa6c99c28839189341ae8bc71ac90cde73ecea"), looks := true }, kinds := [], alts := [], laidByText := true, laidKinds := [.data, .data, .data, .sentinel, .sentinel], laidTests := true, laidLooks := .later }
def FnExactReadWagerCardSaid : Prop := Claim7.holds Tryd.pinned (.plain (OpenSpec.ofChange fnExactReadWagerSpec)) fnExactReadWagerCard

/-- THE SECOND FORM's CARD OF 'laws.FnWagerText'. -/
def fnWagerTextUptoCard : Claim7 := { stood := { row := fnWagerTextUptoRow, standIns := [], harness := (true, "855452e4e0b551f8d3de10fb50fa6c99c28839189341ae8bc71ac90cde73ecea"), looks := true }, kinds := [], alts := [], laidByText := true, laidKinds := [.data, .data, .data, .sentinel, .sentinel], laidTests := true, laidLooks := .later }
def FnWagerTextUptoCardSaid : Prop := Claim7.holds Tryd.pinned (.plain (OpenSpec.upto fnWagerTextSpec)) fnWagerTextUptoCard

/-- THE SECOND FORM's CARD OF 'laws.FnReadWager'. -/
def fnReadWagerUptoCard : Claim7 := { stood := { row := fnReadWagerUptoRow, standIns := [], harness := (true, "855452e4e0b551f8d3de10fb50fa6c99c28839189341ae8bc71ac90cde73ecea"), looks := true }, kinds := [], alts := [], laidByText := true, laidKinds := [.data, .data, .data, .sentinel, .sentinel], laidTests := true, laidLooks := .later }
def FnReadWagerUptoCardSaid : Prop := Claim7.holds Tryd.pinned (.plain (OpenSpec.upto fnReadWagerSpec)) fnReadWagerUptoCard

/-- THE SECOND FORM's CARD OF 'laws.FnExactWagerText'. -/
def fnExactWagerTextUptoCard : Claim7 := { stood := { row := fnExactWagerTextUptoRow, standIns := [], harness := (true, "855452e4e0b551f8d3de10fb50fa6c99c28839189341ae8bc71ac90cde73ecea"), looks := true }, kinds := [], alts := [], laidByText := true, laidKinds := [.data, .data, .data], laidTests := true, laidLooks := .later }
def FnExactWagerTextUptoCardSaid : Prop := Claim7.holds Tryd.pinned (.plain (OpenSpec.upto fnExactWagerTextSpec)) fnExactWagerTextUptoCard

/-- THE SECOND FORM's CARD OF 'laws.FnExactReadWager'. -/
def fnExactReadWagerUptoCard : Claim7 := { stood := { row := fnExactReadWagerUptoRow, standIns := [], harness := (true, "855452e4e0b551f8d3de10fb50fa6c99c28839189341ae8bc71ac90cde73ecea"), looks := true }, kinds := [], alts := [], laidByText := true, laidKinds := [.data, .data, .data, .sentinel, .sentinel], laidTests := true, laidLooks := .later }
def FnExactReadWagerUptoCardSaid : Prop := Claim7.holds Tryd.pinned (.plain (OpenSpec.upto fnExactReadWagerSpec)) fnExactReadWagerUptoCard
end Rows
end Go.Proofs.YtfdlfgokoponmaaDoor
