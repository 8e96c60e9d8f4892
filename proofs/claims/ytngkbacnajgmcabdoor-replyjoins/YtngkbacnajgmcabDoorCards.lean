/-
  DERIVED. GIVEN WITH THE SEED: THE CARDS: each row of YtngkbacnajgmcabDoorRows.lean that lists a variable, with what it lists TIED to the program's text (the seventh form; the later family's looks); each row that meets fmt, with fmt's text TOLD by the authors' own Lean function (tested against real Go, not proved from fmt's source: count such statements apart). THE CARD IS WHAT COUNTS. Prove the row's statement (the work); the ties are given (YtngkbacnajgmcabDoorTie.lean); close each card by the builder's one call (the guide's Derived/Test/ToyasCard.lean, 'card_holds'). Laid BY PROGRAM, IN A SANDBOX (cutbox-door.mjs). By AI agents, Wed Nov 11 2026. No macro, syntax, notation, axiom, sorry.
-/
import Derived.Test.YtngkbacnajgmcabDoorRows
import GoSem.ClaimSeven
namespace Go.Proofs.YtngkbacnajgmcabDoor
namespace Rows

/-- THE TIED CARD OF 'marshalyardlaw04.ReplyMakes'. -/
def replyMakesCard : Claim7 := { stood := { row := replyMakesRow, standIns := [], harness := (true, "e07da9ea8f9a18f7f74f659749ee83baeb0d707b2c320c655622d199f53bd24b"), looks := true }, kinds := [], alts := [], laidByText := true, laidKinds := [.data, .data, .data, .sentinel, .sentinel], laidTests := true, laidLooks := .later }
def ReplyMakesCardSaid : Prop := Claim7.holds Tryd.pinned (.plain (OpenSpec.ofChange replyMakesSpec)) replyMakesCard

/-- THE TIED CARD OF 'marshalyardlaw04.ReplyJoins'. -/
def replyJoinsCard : Claim7 := { stood := { row := replyJoinsRow, standIns := [], harness := (true, "e07da9ea8f9a18f7f74f659749ee83baeb0d707b2c320c655622d199f53bd24b"), looks := true }, kinds := [], alts := [], laidByText := true, laidKinds := [.data, .data, .data, .sentinel, .sentinel], laidTests := true, laidLooks := .later }
def ReplyJoinsCardSaid : Prop := Claim7.holds Tryd.pinned (.plain (OpenSpec.ofChange replyJoinsSpec)) replyJoinsCard

/-- THE SECOND FORM's CARD OF 'marshalyardlaw04.ReplyMakes'. -/
def replyMakesUptoCard : Claim7 := { stood := { row := replyMakesUptoRow, standIns := [], harness := (true, "e07da9ea8f9a18f7f74f659749ee83baeb0d707b2c320c655622d199f53bd24b"), looks := true }, kinds := [], alts := [], laidByText := true, laidKinds := [.data, .data, .data, .sentinel, .sentinel], laidTests := true, laidLooks := .later }
def ReplyMakesUptoCardSaid : Prop := Claim7.holds Tryd.pinned (.plain (OpenSpec.upto replyMakesSpec)) replyMakesUptoCard

/-- THE SECOND FORM's CARD OF 'marshalyardlaw04.ReplyJoins'. -/
def replyJoinsUptoCard : Claim7 := { stood := { row := replyJoinsUptoRow, standIns := [], harness := (true, "e07da9ea8f9a18f7f74f659749ee83baeb0d707b2c320c655622d199f53bd24b"), looks := true }, kinds := [], alts := [], laidByText := true, laidKinds := [.data, .data, .data, .sentinel, .sentinel], laidTests := true, laidLooks := .later }
def ReplyJoinsUptoCardSaid : Prop := Claim7.holds Tryd.pinned (.plain (OpenSpec.upto replyJoinsSpec)) replyJoinsUptoCard
end Rows
end Go.Proofs.YtngkbacnajgmcabDoor
