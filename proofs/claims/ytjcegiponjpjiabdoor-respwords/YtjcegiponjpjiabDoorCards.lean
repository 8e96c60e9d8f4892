/-
  DERIVED. GIVEN WITH THE SEED: THE CARDS: each row of YtjcegiponjpjiabDoorRows.lean that lists a variable, with what it lists TIED to the program's text (the seventh form; the later family's looks); each row that meets fmt, with fmt's text TOLD by the authors' own Lean function (tested against real Go, not proved from fmt's source: count such statements apart). THE CARD IS WHAT COUNTS. Prove the row's statement (the work); the ties are given (YtjcegiponjpjiabDoorTie.lean); close each card by the builder's one call (the guide's Derived/Test/ToyasCard.lean, 'card_holds'). Laid BY PROGRAM, IN A SANDBOX (cutbox-door.mjs). By AI agents, Wed Nov 11 2026. No macro, syntax, notation, axiom, sorry.
-/
import Derived.Test.YtjcegiponjpjiabDoorRows
import GoSem.ClaimSeven
namespace Go.Proofs.YtjcegiponjpjiabDoor
namespace Rows

/-- THE TIED CARD OF 'marshalyardlaw03.RespWords'. -/
def respWordsCard : Claim7 := { stood := { row := respWordsRow, standIns := [], harness := (true, "e0a1e89d502cca0537d6d1c7e7e82812825fcffc2bbd1dab58b94a9eb8553ccb"), looks := false }, kinds := [], alts := [], laidByText := true, laidKinds := [.data, .data, .data, .data, .pinned], laidTests := true, laidLooks := .later }
def RespWordsCardSaid : Prop := Claim7.holds Tryd.pinned (.plain (OpenSpec.ofChange respWordsSpec)) respWordsCard

/-- THE SECOND FORM's CARD OF 'marshalyardlaw03.RespWords'. -/
def respWordsUptoCard : Claim7 := { stood := { row := respWordsUptoRow, standIns := [], harness := (true, "e0a1e89d502cca0537d6d1c7e7e82812825fcffc2bbd1dab58b94a9eb8553ccb"), looks := false }, kinds := [], alts := [], laidByText := true, laidKinds := [.data, .data, .data, .data, .pinned], laidTests := true, laidLooks := .later }
def RespWordsUptoCardSaid : Prop := Claim7.holds Tryd.pinned (.plain (OpenSpec.upto respWordsSpec)) respWordsUptoCard
end Rows
end Go.Proofs.YtjcegiponjpjiabDoor
