/-
  DERIVED. GIVEN WITH THE SEED: THE CARDS: each row of YtlgghndpagoalaaDoorRows.lean that lists a variable, with what it lists TIED to the program's text (the seventh form; the later family's looks); each row that meets fmt, with fmt's text TOLD by the authors' own Lean function (tested against real Go, not proved from fmt's source: count such statements apart). THE CARD IS WHAT COUNTS. Prove the row's statement (the work); the ties are given (YtlgghndpagoalaaDoorTie.lean); close each card by the builder's one call (the guide's Derived/Test/ToyasCard.lean, 'card_holds'). Laid BY PROGRAM, IN A SANDBOX (cutbox-door.mjs). By AI agents, Wed Nov 11 2026. No macro, syntax, notation, axiom, sorry.
-/
import Derived.Test.YtlgghndpagoalaaDoorRows
import GoSem.ClaimSeven
namespace Go.Proofs.YtlgghndpagoalaaDoor
namespace Rows

/-- THE TIED CARD OF 'marshalyardlaw02.SlotParses'. -/
def slotParsesCard : Claim7 := { stood := { row := slotParsesRow, standIns := [], harness := (true, "f571c37875b300e80bb9340d4adff5c940b84551406f4d54e307b4b0c0cbdaa5"), looks := true }, kinds := [], alts := [], laidByText := true, laidKinds := [.data, .data, .data, .data, .sentinel, .sentinel], laidTests := true, laidLooks := .later }
def SlotParsesCardSaid : Prop := Claim7.holds Tryd.pinned (.plain (OpenSpec.ofChange slotParsesSpec)) slotParsesCard

/-- THE TIED CARD OF 'marshalyardlaw02.SlotJoins'. -/
def slotJoinsCard : Claim7 := { stood := { row := slotJoinsRow, standIns := [], harness := (true, "f571c37875b300e80bb9340d4adff5c940b84551406f4d54e307b4b0c0cbdaa5"), looks := true }, kinds := [], alts := [], laidByText := true, laidKinds := [.data, .data, .data, .data, .sentinel, .sentinel], laidTests := true, laidLooks := .later }
def SlotJoinsCardSaid : Prop := Claim7.holds Tryd.pinned (.plain (OpenSpec.ofChange slotJoinsSpec)) slotJoinsCard

/-- THE SECOND FORM's CARD OF 'marshalyardlaw02.SlotParses'. -/
def slotParsesUptoCard : Claim7 := { stood := { row := slotParsesUptoRow, standIns := [], harness := (true, "f571c37875b300e80bb9340d4adff5c940b84551406f4d54e307b4b0c0cbdaa5"), looks := true }, kinds := [], alts := [], laidByText := true, laidKinds := [.data, .data, .data, .data, .sentinel, .sentinel], laidTests := true, laidLooks := .later }
def SlotParsesUptoCardSaid : Prop := Claim7.holds Tryd.pinned (.plain (OpenSpec.upto slotParsesSpec)) slotParsesUptoCard

/-- THE SECOND FORM's CARD OF 'marshalyardlaw02.SlotJoins'. -/
def slotJoinsUptoCard : Claim7 := { stood := { row := slotJoinsUptoRow, standIns := [], harness := (true, "f571c37875b300e80bb9340d4adff5c940b84551406f4d54e307b4b0c0cbdaa5"), looks := true }, kinds := [], alts := [], laidByText := true, laidKinds := [.data, .data, .data, .data, .sentinel, .sentinel], laidTests := true, laidLooks := .later }
def SlotJoinsUptoCardSaid : Prop := Claim7.holds Tryd.pinned (.plain (OpenSpec.upto slotJoinsSpec)) slotJoinsUptoCard
end Rows
end Go.Proofs.YtlgghndpagoalaaDoor
