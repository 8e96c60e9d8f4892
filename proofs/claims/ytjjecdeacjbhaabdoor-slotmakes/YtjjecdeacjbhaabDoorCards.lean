/-
  DERIVED. GIVEN WITH THE SEED: THE CARDS: each row of YtjjecdeacjbhaabDoorRows.lean that lists a variable, with what it lists TIED to the program's text (the seventh form; the later family's looks); each row that meets fmt, with fmt's text TOLD by the authors' own Lean function (tested against real Go, not proved from fmt's source: count such statements apart). THE CARD IS WHAT COUNTS. Prove the row's statement (the work); the ties are given (YtjjecdeacjbhaabDoorTie.lean); close each card by the builder's one call (the guide's Derived/Test/ToyasCard.lean, 'card_holds'). Laid BY PROGRAM, IN A SANDBOX (cutbox-door.mjs). By AI agents, Wed Nov 11 2026. No macro, syntax, notation, axiom, sorry.
-/
import Derived.Test.YtjjecdeacjbhaabDoorRows
import GoSem.ClaimSeven
namespace Go.Proofs.YtjjecdeacjbhaabDoor
namespace Rows

/-- THE TIED CARD OF 'marshalyardlaw02.SlotMakes'. -/
def slotMakesCard : Claim7 := { stood := { row := slotMakesRow, standIns := [], harness := (true, "38b07fc5dffcfa2630337e6fbed606b67ff5f36b08e2fd637ccee094662a6220"), looks := true }, kinds := [], alts := [], laidByText := true, laidKinds := [.data, .data, .data, .data, .sentinel, .sentinel], laidTests := true, laidLooks := .later }
def SlotMakesCardSaid : Prop := Claim7.holds Tryd.pinned (.plain (OpenSpec.ofChange slotMakesSpec)) slotMakesCard

/-- THE TIED CARD OF 'marshalyardlaw02.SlotPrints'. -/
def slotPrintsCard : Claim7 := { stood := { row := slotPrintsRow, standIns := [], harness := (true, "38b07fc5dffcfa2630337e6fbed606b67ff5f36b08e2fd637ccee094662a6220"), looks := true }, kinds := [], alts := [], laidByText := true, laidKinds := [.data, .data, .data, .data, .sentinel, .sentinel], laidTests := true, laidLooks := .later }
def SlotPrintsCardSaid : Prop := Claim7.holds Tryd.pinned (.plain (OpenSpec.ofChange slotPrintsSpec)) slotPrintsCard

/-- THE TIED CARD OF 'marshalyardlaw02.SlotParses'. -/
def slotParsesCard : Claim7 := { stood := { row := slotParsesRow, standIns := [], harness := (true, "38b07fc5dffcfa2630337e6fbed606b67ff5f36b08e2fd637ccee094662a6220"), looks := true }, kinds := [], alts := [], laidByText := true, laidKinds := [.data, .data, .data, .data, .sentinel, .sentinel], laidTests := true, laidLooks := .later }
def SlotParsesCardSaid : Prop := Claim7.holds Tryd.pinned (.plain (OpenSpec.ofChange slotParsesSpec)) slotParsesCard

/-- THE TIED CARD OF 'marshalyardlaw02.SlotTwice'. -/
def slotTwiceCard : Claim7 := { stood := { row := slotTwiceRow, standIns := [], harness := (true, "38b07fc5dffcfa2630337e6fbed606b67ff5f36b08e2fd637ccee094662a6220"), looks := true }, kinds := [], alts := [], laidByText := true, laidKinds := [.data, .data, .data, .data, .sentinel, .sentinel], laidTests := true, laidLooks := .later }
def SlotTwiceCardSaid : Prop := Claim7.holds Tryd.pinned (.plain (OpenSpec.ofChange slotTwiceSpec)) slotTwiceCard

/-- THE TIED CARD OF 'marshalyardlaw02.SlotJoins'. -/
def slotJoinsCard : Claim7 := { stood := { row := slotJoinsRow, standIns := [], harness := (true, "38b07fc5dffcfa2630337e6fbed606b67ff5f36b08e2fd637ccee094662a6220"), looks := true }, kinds := [], alts := [], laidByText := true, laidKinds := [.data, .data, .data, .data, .sentinel, .sentinel], laidTests := true, laidLooks := .later }
def SlotJoinsCardSaid : Prop := Claim7.holds Tryd.pinned (.plain (OpenSpec.ofChange slotJoinsSpec)) slotJoinsCard

/-- THE SECOND FORM's CARD OF 'marshalyardlaw02.SlotMakes'. -/
def slotMakesUptoCard : Claim7 := { stood := { row := slotMakesUptoRow, standIns := [], harness := (true, "38b07fc5dffcfa2630337e6fbed606b67ff5f36b08e2fd637ccee094662a6220"), looks := true }, kinds := [], alts := [], laidByText := true, laidKinds := [.data, .data, .data, .data, .sentinel, .sentinel], laidTests := true, laidLooks := .later }
def SlotMakesUptoCardSaid : Prop := Claim7.holds Tryd.pinned (.plain (OpenSpec.upto slotMakesSpec)) slotMakesUptoCard

/-- THE SECOND FORM's CARD OF 'marshalyardlaw02.SlotPrints'. -/
def slotPrintsUptoCard : Claim7 := { stood := { row := slotPrintsUptoRow, standIns := [], harness := (true, "38b07fc5dffcfa2630337e6fbed606b67ff5f36b08e2fd637ccee094662a6220"), looks := true }, kinds := [], alts := [], laidByText := true, laidKinds := [.data, .data, .data, .data, .sentinel, .sentinel], laidTests := true, laidLooks := .later }
def SlotPrintsUptoCardSaid : Prop := Claim7.holds Tryd.pinned (.plain (OpenSpec.upto slotPrintsSpec)) slotPrintsUptoCard

/-- THE SECOND FORM's CARD OF 'marshalyardlaw02.SlotParses'. -/
def slotParsesUptoCard : Claim7 := { stood := { row := slotParsesUptoRow, standIns := [], harness := (true, "38b07fc5dffcfa2630337e6fbed606b67ff5f36b08e2fd637ccee094662a6220"), looks := true }, kinds := [], alts := [], laidByText := true, laidKinds := [.data, .data, .data, .data, .sentinel, .sentinel], laidTests := true, laidLooks := .later }
def SlotParsesUptoCardSaid : Prop := Claim7.holds Tryd.pinned (.plain (OpenSpec.upto slotParsesSpec)) slotParsesUptoCard

/-- THE SECOND FORM's CARD OF 'marshalyardlaw02.SlotTwice'. -/
def slotTwiceUptoCard : Claim7 := { stood := { row := slotTwiceUptoRow, standIns := [], harness := (true, "38b07fc5dffcfa2630337e6fbed606b67ff5f36b08e2fd637ccee094662a6220"), looks := true }, kinds := [], alts := [], laidByText := true, laidKinds := [.data, .data, .data, .data, .sentinel, .sentinel], laidTests := true, laidLooks := .later }
def SlotTwiceUptoCardSaid : Prop := Claim7.holds Tryd.pinned (.plain (OpenSpec.upto slotTwiceSpec)) slotTwiceUptoCard

/-- THE SECOND FORM's CARD OF 'marshalyardlaw02.SlotJoins'. -/
def slotJoinsUptoCard : Claim7 := { stood := { row := slotJoinsUptoRow, standIns := [], harness := (true, "38b07fc5dffcfa2630337e6fbed606b67ff5f36b08e2fd637ccee094662a6220"), looks := true }, kinds := [], alts := [], laidByText := true, laidKinds := [.data, .data, .data, .data, .sentinel, .sentinel], laidTests := true, laidLooks := .later }
def SlotJoinsUptoCardSaid : Prop := Claim7.holds Tryd.pinned (.plain (OpenSpec.upto slotJoinsSpec)) slotJoinsUptoCard
end Rows
end Go.Proofs.YtjjecdeacjbhaabDoor
