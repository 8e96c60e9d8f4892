/-
  DERIVED. GIVEN WITH THE SEED: THE CARDS: each row of YtjcegiponjpjiaaDoorRows.lean that lists a variable, with what it lists TIED to the program's text (the seventh form; the later family's looks); each row that meets fmt, with fmt's text TOLD by the authors' own Lean function (tested against real Go, not proved from fmt's source: count such statements apart). THE CARD IS WHAT COUNTS. Prove the row's statement (the work); the ties are given (YtjcegiponjpjiaaDoorTie.lean); close each card by the builder's one call (the guide's Derived/Test/ToyasCard.lean, 'card_holds'). Laid BY PROGRAM, IN A SANDBOX (cutbox-door.mjs). By AI agents, Wed Nov 11 2026. No macro, syntax, notation, axiom, sorry.
-/
import Derived.Test.YtjcegiponjpjiaaDoorRows
import GoSem.ClaimSeven
namespace Go.Proofs.YtjcegiponjpjiaaDoor
namespace Rows

/-- THE TIED CARD OF 'marshalyardlaw03.RespReads'. -/
def respReadsCard : Claim7 := { stood := { row := respReadsRow, standIns := [], harness := (true, "b8ee1496f952e29b711aed79c8419aec01c31c5b5eaf08f40faac94fe1cb84e0"), looks := false }, kinds := [], alts := [], laidByText := true, laidKinds := [.data, .pinned], laidTests := true, laidLooks := .later }
def RespReadsCardSaid : Prop := Claim7.holds Tryd.pinned (.plain (OpenSpec.ofChange respReadsSpec)) respReadsCard

/-- THE TIED CARD OF 'marshalyardlaw03.RespPieces'. -/
def respPiecesCard : Claim7 := { stood := { row := respPiecesRow, standIns := [], harness := (true, "b8ee1496f952e29b711aed79c8419aec01c31c5b5eaf08f40faac94fe1cb84e0"), looks := false }, kinds := [], alts := [], laidByText := true, laidKinds := [.data, .pinned], laidTests := true, laidLooks := .later }
def RespPiecesCardSaid : Prop := Claim7.holds Tryd.pinned (.plain (OpenSpec.ofChange respPiecesSpec)) respPiecesCard

/-- THE TIED CARD OF 'marshalyardlaw03.RespAgain'. -/
def respAgainCard : Claim7 := { stood := { row := respAgainRow, standIns := [], harness := (true, "b8ee1496f952e29b711aed79c8419aec01c31c5b5eaf08f40faac94fe1cb84e0"), looks := false }, kinds := [], alts := [], laidByText := true, laidKinds := [.data, .pinned], laidTests := true, laidLooks := .later }
def RespAgainCardSaid : Prop := Claim7.holds Tryd.pinned (.plain (OpenSpec.ofChange respAgainSpec)) respAgainCard

/-- THE TIED CARD OF 'marshalyardlaw03.RespWrites'. -/
def respWritesCard : Claim7 := { stood := { row := respWritesRow, standIns := [], harness := (true, "b8ee1496f952e29b711aed79c8419aec01c31c5b5eaf08f40faac94fe1cb84e0"), looks := false }, kinds := [], alts := [], laidByText := true, laidKinds := [.data, .data, .data, .data, .pinned], laidTests := true, laidLooks := .later }
def RespWritesCardSaid : Prop := Claim7.holds Tryd.pinned (.plain (OpenSpec.ofChange respWritesSpec)) respWritesCard

/-- THE TIED CARD OF 'marshalyardlaw03.RespBack'. -/
def respBackCard : Claim7 := { stood := { row := respBackRow, standIns := [], harness := (true, "b8ee1496f952e29b711aed79c8419aec01c31c5b5eaf08f40faac94fe1cb84e0"), looks := false }, kinds := [], alts := [], laidByText := true, laidKinds := [.data, .data, .data, .data, .pinned], laidTests := true, laidLooks := .later }
def RespBackCardSaid : Prop := Claim7.holds Tryd.pinned (.plain (OpenSpec.ofChange respBackSpec)) respBackCard

/-- THE TIED CARD OF 'marshalyardlaw03.RespKeeps'. -/
def respKeepsCard : Claim7 := { stood := { row := respKeepsRow, standIns := [], harness := (true, "b8ee1496f952e29b711aed79c8419aec01c31c5b5eaf08f40faac94fe1cb84e0"), looks := false }, kinds := [], alts := [], laidByText := true, laidKinds := [.data, .pinned], laidTests := true, laidLooks := .later }
def RespKeepsCardSaid : Prop := Claim7.holds Tryd.pinned (.plain (OpenSpec.ofChange respKeepsSpec)) respKeepsCard

/-- THE SECOND FORM's CARD OF 'marshalyardlaw03.RespReads'. -/
def respReadsUptoCard : Claim7 := { stood := { row := respReadsUptoRow, standIns := [], harness := (true, "b8ee1496f952e29b711aed79c8419aec01c31c5b5eaf08f40faac94fe1cb84e0"), looks := false }, kinds := [], alts := [], laidByText := true, laidKinds := [.data, .pinned], laidTests := true, laidLooks := .later }
def RespReadsUptoCardSaid : Prop := Claim7.holds Tryd.pinned (.plain (OpenSpec.upto respReadsSpec)) respReadsUptoCard

/-- THE SECOND FORM's CARD OF 'marshalyardlaw03.RespPieces'. -/
def respPiecesUptoCard : Claim7 := { stood := { row := respPiecesUptoRow, standIns := [], harness := (true, "b8ee1496f952e29b711aed79c8419aec01c31c5b5eaf08f40faac94fe1cb84e0"), looks := false }, kinds := [], alts := [], laidByText := true, laidKinds := [.data, .pinned], laidTests := true, laidLooks := .later }
def RespPiecesUptoCardSaid : Prop := Claim7.holds Tryd.pinned (.plain (OpenSpec.upto respPiecesSpec)) respPiecesUptoCard

/-- THE SECOND FORM's CARD OF 'marshalyardlaw03.RespAgain'. -/
def respAgainUptoCard : Claim7 := { stood := { row := respAgainUptoRow, standIns := [], harness := (true, "b8ee1496f952e29b711aed79c8419aec01c31c5b5eaf08f40faac94fe1cb84e0"), looks := false }, kinds := [], alts := [], laidByText := true, laidKinds := [.data, .pinned], laidTests := true, laidLooks := .later }
def RespAgainUptoCardSaid : Prop := Claim7.holds Tryd.pinned (.plain (OpenSpec.upto respAgainSpec)) respAgainUptoCard

/-- THE SECOND FORM's CARD OF 'marshalyardlaw03.RespWrites'. -/
def respWritesUptoCard : Claim7 := { stood := { row := respWritesUptoRow, standIns := [], harness := (true, "b8ee1496f952e29b711aed79c8419aec01c31c5b5eaf08f40faac94fe1cb84e0"), looks := false }, kinds := [], alts := [], laidByText := true, laidKinds := [.data, .data, .data, .data, .pinned], laidTests := true, laidLooks := .later }
def RespWritesUptoCardSaid : Prop := Claim7.holds Tryd.pinned (.plain (OpenSpec.upto respWritesSpec)) respWritesUptoCard

/-- THE SECOND FORM's CARD OF 'marshalyardlaw03.RespBack'. -/
def respBackUptoCard : Claim7 := { stood := { row := respBackUptoRow, standIns := [], harness := (true, "b8ee1496f952e29b711aed79c8419aec01c31c5b5eaf08f40faac94fe1cb84e0"), looks := false }, kinds := [], alts := [], laidByText := true, laidKinds := [.data, .data, .data, .data, .pinned], laidTests := true, laidLooks := .later }
def RespBackUptoCardSaid : Prop := Claim7.holds Tryd.pinned (.plain (OpenSpec.upto respBackSpec)) respBackUptoCard

/-- THE SECOND FORM's CARD OF 'marshalyardlaw03.RespKeeps'. -/
def respKeepsUptoCard : Claim7 := { stood := { row := respKeepsUptoRow, standIns := [], harness := (true, "b8ee1496f952e29b711aed79c8419aec01c31c5b5eaf08f40faac94fe1cb84e0"), looks := false }, kinds := [], alts := [], laidByText := true, laidKinds := [.data, .pinned], laidTests := true, laidLooks := .later }
def RespKeepsUptoCardSaid : Prop := Claim7.holds Tryd.pinned (.plain (OpenSpec.upto respKeepsSpec)) respKeepsUptoCard
end Rows
end Go.Proofs.YtjcegiponjpjiaaDoor
