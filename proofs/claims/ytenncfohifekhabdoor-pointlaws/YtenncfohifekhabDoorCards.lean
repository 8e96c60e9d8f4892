/-
  DERIVED. GIVEN WITH THE SEED: THE CARDS: each row of YtenncfohifekhabDoorRows.lean that lists a variable, with what it lists TIED to the program's text (the seventh form; the later family's looks); each row that meets fmt, with fmt's text TOLD by the authors' own Lean function (tested against real Go, not proved from fmt's source: count such statements apart). THE CARD IS WHAT COUNTS. Prove the row's statement (the work); the ties are given (YtenncfohifekhabDoorTie.lean); close each card by the builder's one call (the guide's Derived/Test/ToyasCard.lean, 'card_holds'). Laid BY PROGRAM, IN A SANDBOX (cutbox-door.mjs). By AI agents, Wed Nov 11 2026. No macro, syntax, notation, axiom, sorry.
-/
import Derived.Test.YtenncfohifekhabDoorRows
import GoSem.ClaimSeven
namespace Go.Proofs.YtenncfohifekhabDoor
namespace Rows

/-- THE TIED CARD OF 'marshalyardlaw09.PointLaws'. -/
def pointLawsCard : Claim7 := { stood := { row := pointLawsRow, standIns := [], harness := (true, "32fa319dc107b9fc8e54e3cdff2e5394950ea720a7f127857441b77fabe5d634"), looks := false }, kinds := [], alts := [], laidByText := true, laidKinds := [.data, .data, .data], laidTests := true, laidLooks := .later }
def PointLawsCardSaid : Prop := Claim7.holds Tryd.pinned (.plain (OpenSpec.ofChange pointLawsSpec)) pointLawsCard

/-- THE TIED CARD OF 'marshalyardlaw09.PointRound'. -/
def pointRoundCard : Claim7 := { stood := { row := pointRoundRow, standIns := [], harness := (true, "32fa319dc107b9fc8e54e3cdff2e5394950ea720a7f127857441b77fabe5d634"), looks := false }, kinds := [], alts := [], laidByText := true, laidKinds := [.data, .data, .data], laidTests := true, laidLooks := .later }
def PointRoundCardSaid : Prop := Claim7.holds Tryd.pinned (.plain (OpenSpec.ofChange pointRoundSpec)) pointRoundCard

/-- THE TIED CARD OF 'marshalyardlaw09.PointHalf'. -/
def pointHalfCard : Claim7 := { stood := { row := pointHalfRow, standIns := [], harness := (true, "32fa319dc107b9fc8e54e3cdff2e5394950ea720a7f127857441b77fabe5d634"), looks := false }, kinds := [], alts := [], laidByText := true, laidKinds := [.data, .data, .data], laidTests := true, laidLooks := .later }
def PointHalfCardSaid : Prop := Claim7.holds Tryd.pinned (.plain (OpenSpec.ofChange pointHalfSpec)) pointHalfCard

/-- THE TIED CARD OF 'marshalyardlaw09.PointRests'. -/
def pointRestsCard : Claim7 := { stood := { row := pointRestsRow, standIns := [], harness := (true, "32fa319dc107b9fc8e54e3cdff2e5394950ea720a7f127857441b77fabe5d634"), looks := false }, kinds := [], alts := [], laidByText := true, laidKinds := [.data, .data, .data], laidTests := true, laidLooks := .later }
def PointRestsCardSaid : Prop := Claim7.holds Tryd.pinned (.plain (OpenSpec.ofChange pointRestsSpec)) pointRestsCard

/-- THE SECOND FORM's CARD OF 'marshalyardlaw09.PointLaws'. -/
def pointLawsUptoCard : Claim7 := { stood := { row := pointLawsUptoRow, standIns := [], harness := (true, "32fa319dc107b9fc8e54e3cdff2e5394950ea720a7f127857441b77fabe5d634"), looks := false }, kinds := [], alts := [], laidByText := true, laidKinds := [.data, .data, .data], laidTests := true, laidLooks := .later }
def PointLawsUptoCardSaid : Prop := Claim7.holds Tryd.pinned (.plain (OpenSpec.upto pointLawsSpec)) pointLawsUptoCard

/-- THE SECOND FORM's CARD OF 'marshalyardlaw09.PointRound'. -/
def pointRoundUptoCard : Claim7 := { stood := { row := pointRoundUptoRow, standIns := [], harness := (true, "32fa319dc107b9fc8e54e3cdff2e5394950ea720a7f127857441b77fabe5d634"), looks := false }, kinds := [], alts := [], laidByText := true, laidKinds := [.data, .data, .data], laidTests := true, laidLooks := .later }
def PointRoundUptoCardSaid : Prop := Claim7.holds Tryd.pinned (.plain (OpenSpec.upto pointRoundSpec)) pointRoundUptoCard

/-- THE SECOND FORM's CARD OF 'marshalyardlaw09.PointHalf'. -/
def pointHalfUptoCard : Claim7 := { stood := { row := pointHalfUptoRow, standIns := [], harness := (true, "32fa319dc107b9fc8e54e3cdff2e5394950ea720a7f127857441b77fabe5d634"), looks := false }, kinds := [], alts := [], laidByText := true, laidKinds := [.data, .data, .data], laidTests := true, laidLooks := .later }
def PointHalfUptoCardSaid : Prop := Claim7.holds Tryd.pinned (.plain (OpenSpec.upto pointHalfSpec)) pointHalfUptoCard

/-- THE SECOND FORM's CARD OF 'marshalyardlaw09.PointRests'. -/
def pointRestsUptoCard : Claim7 := { stood := { row := pointRestsUptoRow, standIns := [], harness := (true, "32fa319dc107b9fc8e54e3cdff2e5394950ea720a7f127857441b77fabe5d634"), looks := false }, kinds := [], alts := [], laidByText := true, laidKinds := [.data, .data, .data], laidTests := true, laidLooks := .later }
def PointRestsUptoCardSaid : Prop := Claim7.holds Tryd.pinned (.plain (OpenSpec.upto pointRestsSpec)) pointRestsUptoCard
end Rows
end Go.Proofs.YtenncfohifekhabDoor
