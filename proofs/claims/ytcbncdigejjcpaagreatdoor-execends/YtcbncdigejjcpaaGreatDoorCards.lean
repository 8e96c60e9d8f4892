/-
  DERIVED. GIVEN WITH THE SEED: THE CARDS: each row of YtcbncdigejjcpaaGreatDoorRows.lean that lists a variable, with what it lists TIED to the program's text (the seventh form; the later family's looks); each row that meets fmt, with fmt's text TOLD by the authors' own Lean function (tested against real Go, not proved from fmt's source: count such statements apart). THE CARD IS WHAT COUNTS. Prove the row's statement (the work); the ties are given (YtcbncdigejjcpaaGreatDoorTie.lean); close each card by the builder's one call (the guide's Derived/Test/ToyasCard.lean, 'card_holds'). Laid BY PROGRAM, IN A SANDBOX (cutbox-door.mjs). By AI agents, Wed Nov 11 2026. No macro, syntax, notation, axiom, sorry.
-/
import Derived.Test.YtcbncdigejjcpaaGreatDoorRows
import GoSem.ClaimSeven
namespace Go.Proofs.YtcbncdigejjcpaaGreatDoor
namespace Rows

/-- THE TIED CARD OF 'marshalyardlaw13.ExecFaults'. -/
def execFaultsCard : Claim7 := { stood := { row := execFaultsRow, standIns := [], harness := (true, "e1aa99a8d371cf06b9af697274c3099e4e0b97b61aafa2745c7b2bc7dde48204"), looks := true }, kinds := [], alts := [], laidByText := true, laidKinds := [.data, .data, .data, .data, .data, .sentinel, .sentinel, .pinned], laidTests := true, laidLooks := .later }
def ExecFaultsCardSaid : Prop := Claim7.holds Tryz.pinned (.plain (OpenSpec.ofChange execFaultsSpec)) execFaultsCard

/-- THE TIED CARD OF 'marshalyardlaw13.ExecCarries'. -/
def execCarriesCard : Claim7 := { stood := { row := execCarriesRow, standIns := [], harness := (true, "e1aa99a8d371cf06b9af697274c3099e4e0b97b61aafa2745c7b2bc7dde48204"), looks := true }, kinds := [], alts := [], laidByText := true, laidKinds := [.data, .data, .data, .data, .data, .sentinel, .sentinel, .pinned], laidTests := true, laidLooks := .later }
def ExecCarriesCardSaid : Prop := Claim7.holds Tryz.pinned (.plain (OpenSpec.ofChange execCarriesSpec)) execCarriesCard

/-- THE TIED CARD OF 'marshalyardlaw13.ExecAgain'. -/
def execAgainCard : Claim7 := { stood := { row := execAgainRow, standIns := [], harness := (true, "e1aa99a8d371cf06b9af697274c3099e4e0b97b61aafa2745c7b2bc7dde48204"), looks := true }, kinds := [], alts := [], laidByText := true, laidKinds := [.data, .data, .data, .data, .data, .sentinel, .sentinel, .pinned], laidTests := true, laidLooks := .later }
def ExecAgainCardSaid : Prop := Claim7.holds Tryz.pinned (.plain (OpenSpec.ofChange execAgainSpec)) execAgainCard

/-- THE TIED CARD OF 'marshalyardlaw13.ExecApart'. -/
def execApartCard : Claim7 := { stood := { row := execApartRow, standIns := [], harness := (true, "e1aa99a8d371cf06b9af697274c3099e4e0b97b61aafa2745c7b2bc7dde48204"), looks := true }, kinds := [], alts := [], laidByText := true, laidKinds := [.data, .data, .data, .data, .data, .sentinel, .sentinel, .pinned], laidTests := true, laidLooks := .later }
def ExecApartCardSaid : Prop := Claim7.holds Tryz.pinned (.plain (OpenSpec.ofChange execApartSpec)) execApartCard

/-- THE TIED CARD OF 'marshalyardlaw13.ExecTexts'. -/
def execTextsCard : Claim7 := { stood := { row := execTextsRow, standIns := [], harness := (true, "e1aa99a8d371cf06b9af697274c3099e4e0b97b61aafa2745c7b2bc7dde48204"), looks := true }, kinds := [], alts := [], laidByText := true, laidKinds := [.data, .data, .data, .data, .data, .sentinel, .sentinel, .pinned], laidTests := true, laidLooks := .later }
def ExecTextsCardSaid : Prop := Claim7.holds Tryz.pinned (.plain (OpenSpec.ofChange execTextsSpec)) execTextsCard

/-- THE TIED CARD OF 'marshalyardlaw13.ExecEnds'. -/
def execEndsCard : Claim7 := { stood := { row := execEndsRow, standIns := [], harness := (true, "e1aa99a8d371cf06b9af697274c3099e4e0b97b61aafa2745c7b2bc7dde48204"), looks := true }, kinds := [], alts := [], laidByText := true, laidKinds := [.data, .data, .data, .data, .data, .sentinel, .sentinel, .pinned], laidTests := true, laidLooks := .later }
def ExecEndsCardSaid : Prop := Claim7.holds Tryz.pinned (.plain (OpenSpec.ofChange execEndsSpec)) execEndsCard

/-- THE SECOND FORM's CARD OF 'marshalyardlaw13.ExecFaults'. -/
def execFaultsUptoCard : Claim7 := { stood := { row := execFaultsUptoRow, standIns := [], harness := (true, "e1aa99a8d371cf06b9af697274c3099e4e0b97b61aafa2745c7b2bc7dde48204"), looks := true }, kinds := [], alts := [], laidByText := true, laidKinds := [.data, .data, .data, .data, .data, .sentinel, .sentinel, .pinned], laidTests := true, laidLooks := .later }
def ExecFaultsUptoCardSaid : Prop := Claim7.holds Tryz.pinned (.plain (OpenSpec.upto execFaultsSpec)) execFaultsUptoCard

/-- THE SECOND FORM's CARD OF 'marshalyardlaw13.ExecCarries'. -/
def execCarriesUptoCard : Claim7 := { stood := { row := execCarriesUptoRow, standIns := [], harness := (true, "e1aa99a8d371cf06b9af697274c3099e4e0b97b61aafa2745c7b2bc7dde48204"), looks := true }, kinds := [], alts := [], laidByText := true, laidKinds := [.data, .data, .data, .data, .data, .sentinel, .sentinel, .pinned], laidTests := true, laidLooks := .later }
def ExecCarriesUptoCardSaid : Prop := Claim7.holds Tryz.pinned (.plain (OpenSpec.upto execCarriesSpec)) execCarriesUptoCard

/-- THE SECOND FORM's CARD OF 'marshalyardlaw13.ExecAgain'. -/
def execAgainUptoCard : Claim7 := { stood := { row := execAgainUptoRow, standIns := [], harness := (true, "e1aa99a8d371cf06b9af697274c3099e4e0b97b61aafa2745c7b2bc7dde48204"), looks := true }, kinds := [], alts := [], laidByText := true, laidKinds := [.data, .data, .data, .data, .data, .sentinel, .sentinel, .pinned], laidTests := true, laidLooks := .later }
def ExecAgainUptoCardSaid : Prop := Claim7.holds Tryz.pinned (.plain (OpenSpec.upto execAgainSpec)) execAgainUptoCard

/-- THE SECOND FORM's CARD OF 'marshalyardlaw13.ExecApart'. -/
def execApartUptoCard : Claim7 := { stood := { row := execApartUptoRow, standIns := [], harness := (true, "e1aa99a8d371cf06b9af697274c3099e4e0b97b61aafa2745c7b2bc7dde48204"), looks := true }, kinds := [], alts := [], laidByText := true, laidKinds := [.data, .data, .data, .data, .data, .sentinel, .sentinel, .pinned], laidTests := true, laidLooks := .later }
def ExecApartUptoCardSaid : Prop := Claim7.holds Tryz.pinned (.plain (OpenSpec.upto execApartSpec)) execApartUptoCard

/-- THE SECOND FORM's CARD OF 'marshalyardlaw13.ExecTexts'. -/
def execTextsUptoCard : Claim7 := { stood := { row := execTextsUptoRow, standIns := [], harness := (true, "e1aa99a8d371cf06b9af697274c3099e4e0b97b61aafa2745c7b2bc7dde48204"), looks := true }, kinds := [], alts := [], laidByText := true, laidKinds := [.data, .data, .data, .data, .data, .sentinel, .sentinel, .pinned], laidTests := true, laidLooks := .later }
def ExecTextsUptoCardSaid : Prop := Claim7.holds Tryz.pinned (.plain (OpenSpec.upto execTextsSpec)) execTextsUptoCard

/-- THE SECOND FORM's CARD OF 'marshalyardlaw13.ExecEnds'. -/
def execEndsUptoCard : Claim7 := { stood := { row := execEndsUptoRow, standIns := [], harness := (true, "e1aa99a8d371cf06b9af697274c3099e4e0b97b61aafa2745c7b2bc7dde48204"), looks := true }, kinds := [], alts := [], laidByText := true, laidKinds := [.data, .data, .data, .data, .data, .sentinel, .sentinel, .pinned], laidTests := true, laidLooks := .later }
def ExecEndsUptoCardSaid : Prop := Claim7.holds Tryz.pinned (.plain (OpenSpec.upto execEndsSpec)) execEndsUptoCard
end Rows
end Go.Proofs.YtcbncdigejjcpaaGreatDoor
