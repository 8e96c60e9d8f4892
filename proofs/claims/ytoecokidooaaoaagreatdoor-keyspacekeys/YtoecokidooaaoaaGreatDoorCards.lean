/-
  DERIVED. GIVEN WITH THE SEED: THE CARDS: each row of YtoecokidooaaoaaGreatDoorRows.lean that lists a variable, with what it lists TIED to the program's text (the seventh form; the later family's looks); each row that meets fmt, with fmt's text TOLD by the authors' own Lean function (tested against real Go, not proved from fmt's source: count such statements apart). THE CARD IS WHAT COUNTS. Prove the row's statement (the work); the ties are given (YtoecokidooaaoaaGreatDoorTie.lean); close each card by the builder's one call (the guide's Derived/Test/ToyasCard.lean, 'card_holds'). Laid BY PROGRAM, IN A SANDBOX (cutbox-door.mjs). By AI agents, Wed Nov 11 2026. No macro, syntax, notation, axiom, sorry.
-/
import Derived.Test.YtoecokidooaaoaaGreatDoorRows
import GoSem.ClaimSeven
namespace Go.Proofs.YtoecokidooaaoaaGreatDoor
namespace Rows

/-- THE TIED CARD OF 'marshalyardlaw11.KeyspaceAll'. -/
def keyspaceAllCard : Claim7 := { stood := { row := keyspaceAllRow, standIns := [], harness := (true, "2a051c215505fd2e03f7c05ccb07b051d9c65a78025f258c0048b80b00317a6f"), looks := true }, kinds := [], alts := [], laidByText := true, laidKinds := [.data], laidTests := true, laidLooks := .later }
def KeyspaceAllCardSaid : Prop := Claim7.holds Tryz.pinned (.plain (OpenSpec.ofChange keyspaceAllSpec)) keyspaceAllCard

/-- THE TIED CARD OF 'marshalyardlaw11.KeyspaceKeys'. -/
def keyspaceKeysCard : Claim7 := { stood := { row := keyspaceKeysRow, standIns := [], harness := (true, "2a051c215505fd2e03f7c05ccb07b051d9c65a78025f258c0048b80b00317a6f"), looks := true }, kinds := [], alts := [], laidByText := true, laidKinds := [.data], laidTests := true, laidLooks := .later }
def KeyspaceKeysCardSaid : Prop := Claim7.holds Tryz.pinned (.plain (OpenSpec.ofChange keyspaceKeysSpec)) keyspaceKeysCard

/-- THE TIED CARD OF 'marshalyardlaw11.KeyspaceEnds'. -/
def keyspaceEndsCard : Claim7 := { stood := { row := keyspaceEndsRow, standIns := [], harness := (true, "2a051c215505fd2e03f7c05ccb07b051d9c65a78025f258c0048b80b00317a6f"), looks := true }, kinds := [], alts := [], laidByText := true, laidKinds := [.data], laidTests := true, laidLooks := .later }
def KeyspaceEndsCardSaid : Prop := Claim7.holds Tryz.pinned (.plain (OpenSpec.ofChange keyspaceEndsSpec)) keyspaceEndsCard

/-- THE TIED CARD OF 'marshalyardlaw11.KeyspaceApart'. -/
def keyspaceApartCard : Claim7 := { stood := { row := keyspaceApartRow, standIns := [], harness := (true, "2a051c215505fd2e03f7c05ccb07b051d9c65a78025f258c0048b80b00317a6f"), looks := true }, kinds := [], alts := [], laidByText := true, laidKinds := [.data], laidTests := true, laidLooks := .later }
def KeyspaceApartCardSaid : Prop := Claim7.holds Tryz.pinned (.plain (OpenSpec.ofChange keyspaceApartSpec)) keyspaceApartCard

/-- THE TIED CARD OF 'marshalyardlaw11.KeyspaceBack'. -/
def keyspaceBackCard : Claim7 := { stood := { row := keyspaceBackRow, standIns := [], harness := (true, "2a051c215505fd2e03f7c05ccb07b051d9c65a78025f258c0048b80b00317a6f"), looks := true }, kinds := [], alts := [], laidByText := true, laidKinds := [.data], laidTests := true, laidLooks := .later }
def KeyspaceBackCardSaid : Prop := Claim7.holds Tryz.pinned (.plain (OpenSpec.ofChange keyspaceBackSpec)) keyspaceBackCard

/-- THE SECOND FORM's CARD OF 'marshalyardlaw11.KeyspaceAll'. -/
def keyspaceAllUptoCard : Claim7 := { stood := { row := keyspaceAllUptoRow, standIns := [], harness := (true, "2a051c215505fd2e03f7c05ccb07b051d9c65a78025f258c0048b80b00317a6f"), looks := true }, kinds := [], alts := [], laidByText := true, laidKinds := [.data], laidTests := true, laidLooks := .later }
def KeyspaceAllUptoCardSaid : Prop := Claim7.holds Tryz.pinned (.plain (OpenSpec.upto keyspaceAllSpec)) keyspaceAllUptoCard

/-- THE SECOND FORM's CARD OF 'marshalyardlaw11.KeyspaceKeys'. -/
def keyspaceKeysUptoCard : Claim7 := { stood := { row := keyspaceKeysUptoRow, standIns := [], harness := (true, "2a051c215505fd2e03f7c05ccb07b051d9c65a78025f258c0048b80b00317a6f"), looks := true }, kinds := [], alts := [], laidByText := true, laidKinds := [.data], laidTests := true, laidLooks := .later }
def KeyspaceKeysUptoCardSaid : Prop := Claim7.holds Tryz.pinned (.plain (OpenSpec.upto keyspaceKeysSpec)) keyspaceKeysUptoCard

/-- THE SECOND FORM's CARD OF 'marshalyardlaw11.KeyspaceEnds'. -/
def keyspaceEndsUptoCard : Claim7 := { stood := { row := keyspaceEndsUptoRow, standIns := [], harness := (true, "2a051c215505fd2e03f7c05ccb07b051d9c65a78025f258c0048b80b00317a6f"), looks := true }, kinds := [], alts := [], laidByText := true, laidKinds := [.data], laidTests := true, laidLooks := .later }
def KeyspaceEndsUptoCardSaid : Prop := Claim7.holds Tryz.pinned (.plain (OpenSpec.upto keyspaceEndsSpec)) keyspaceEndsUptoCard

/-- THE SECOND FORM's CARD OF 'marshalyardlaw11.KeyspaceApart'. -/
def keyspaceApartUptoCard : Claim7 := { stood := { row := keyspaceApartUptoRow, standIns := [], harness := (true, "2a051c215505fd2e03f7c05ccb07b051d9c65a78025f258c0048b80b00317a6f"), looks := true }, kinds := [], alts := [], laidByText := true, laidKinds := [.data], laidTests := true, laidLooks := .later }
def KeyspaceApartUptoCardSaid : Prop := Claim7.holds Tryz.pinned (.plain (OpenSpec.upto keyspaceApartSpec)) keyspaceApartUptoCard

/-- THE SECOND FORM's CARD OF 'marshalyardlaw11.KeyspaceBack'. -/
def keyspaceBackUptoCard : Claim7 := { stood := { row := keyspaceBackUptoRow, standIns := [], harness := (true, "2a051c215505fd2e03f7c05ccb07b051d9c65a78025f258c0048b80b00317a6f"), looks := true }, kinds := [], alts := [], laidByText := true, laidKinds := [.data], laidTests := true, laidLooks := .later }
def KeyspaceBackUptoCardSaid : Prop := Claim7.holds Tryz.pinned (.plain (OpenSpec.upto keyspaceBackSpec)) keyspaceBackUptoCard
end Rows
end Go.Proofs.YtoecokidooaaoaaGreatDoor
