/-
  DERIVED. GIVEN WITH THE SEED: THE CARDS: each row of YtjjecdeacjbhaaaDoorRows.lean that lists a variable, with what it lists TIED to the program's text (the seventh form; the later family's looks); each row that meets fmt, with fmt's text TOLD by the authors' own Lean function (tested against real Go, not proved from fmt's source: count such statements apart). THE CARD IS WHAT COUNTS. Prove the row's statement (the work); the ties are given (YtjjecdeacjbhaaaDoorTie.lean); close each card by the builder's one call (the guide's Derived/Test/ToyasCard.lean, 'card_holds'). Laid BY PROGRAM, IN A SANDBOX (cutbox-door.mjs). By AI agents, Wed Nov 11 2026. No macro, syntax, notation, axiom, sorry.
-/
import Derived.Test.YtjjecdeacjbhaaaDoorRows
import GoSem.ClaimSeven
namespace Go.Proofs.YtjjecdeacjbhaaaDoor
namespace Rows

/-- THE TIED CARD OF 'marshalyardlaw02.SlotTags'. -/
def slotTagsCard : Claim7 := { stood := { row := slotTagsRow, standIns := [], harness := (true, "61c9813cdb91144ec615b86cc2d6aaecb58ca363ea99b7eb336ab54e32a7e40f"), looks := true }, kinds := [], alts := [], laidByText := true, laidKinds := [.data, .data, .data, .data, .sentinel, .sentinel], laidTests := true, laidLooks := .later }
def SlotTagsCardSaid : Prop := Claim7.holds Tryd.pinned (.plain (OpenSpec.ofChange slotTagsSpec)) slotTagsCard

/-- THE TIED CARD OF 'marshalyardlaw02.SlotOf'. -/
def slotOfCard : Claim7 := { stood := { row := slotOfRow, standIns := [], harness := (true, "61c9813cdb91144ec615b86cc2d6aaecb58ca363ea99b7eb336ab54e32a7e40f"), looks := true }, kinds := [], alts := [], laidByText := true, laidKinds := [.data, .data, .data, .data, .sentinel, .sentinel], laidTests := true, laidLooks := .later }
def SlotOfCardSaid : Prop := Claim7.holds Tryd.pinned (.plain (OpenSpec.ofChange slotOfSpec)) slotOfCard

/-- THE TIED CARD OF 'marshalyardlaw02.SlotAlike'. -/
def slotAlikeCard : Claim7 := { stood := { row := slotAlikeRow, standIns := [], harness := (true, "61c9813cdb91144ec615b86cc2d6aaecb58ca363ea99b7eb336ab54e32a7e40f"), looks := true }, kinds := [], alts := [], laidByText := true, laidKinds := [.data, .data, .data, .data, .sentinel, .sentinel], laidTests := true, laidLooks := .later }
def SlotAlikeCardSaid : Prop := Claim7.holds Tryd.pinned (.plain (OpenSpec.ofChange slotAlikeSpec)) slotAlikeCard

/-- THE TIED CARD OF 'marshalyardlaw02.SlotSets'. -/
def slotSetsCard : Claim7 := { stood := { row := slotSetsRow, standIns := [], harness := (true, "61c9813cdb91144ec615b86cc2d6aaecb58ca363ea99b7eb336ab54e32a7e40f"), looks := true }, kinds := [], alts := [], laidByText := true, laidKinds := [.data, .data, .data, .data, .sentinel, .sentinel], laidTests := true, laidLooks := .later }
def SlotSetsCardSaid : Prop := Claim7.holds Tryd.pinned (.plain (OpenSpec.ofChange slotSetsSpec)) slotSetsCard

/-- THE TIED CARD OF 'marshalyardlaw02.SlotCounts'. -/
def slotCountsCard : Claim7 := { stood := { row := slotCountsRow, standIns := [], harness := (true, "61c9813cdb91144ec615b86cc2d6aaecb58ca363ea99b7eb336ab54e32a7e40f"), looks := true }, kinds := [], alts := [], laidByText := true, laidKinds := [.data, .data, .data, .data, .sentinel, .sentinel], laidTests := true, laidLooks := .later }
def SlotCountsCardSaid : Prop := Claim7.holds Tryd.pinned (.plain (OpenSpec.ofChange slotCountsSpec)) slotCountsCard

/-- THE TIED CARD OF 'marshalyardlaw02.SlotRanges'. -/
def slotRangesCard : Claim7 := { stood := { row := slotRangesRow, standIns := [], harness := (true, "61c9813cdb91144ec615b86cc2d6aaecb58ca363ea99b7eb336ab54e32a7e40f"), looks := true }, kinds := [], alts := [], laidByText := true, laidKinds := [.data, .data, .data, .data, .sentinel, .sentinel], laidTests := true, laidLooks := .later }
def SlotRangesCardSaid : Prop := Claim7.holds Tryd.pinned (.plain (OpenSpec.ofChange slotRangesSpec)) slotRangesCard

/-- THE SECOND FORM's CARD OF 'marshalyardlaw02.SlotTags'. -/
def slotTagsUptoCard : Claim7 := { stood := { row := slotTagsUptoRow, standIns := [], harness := (true, "61c9813cdb91144ec615b86cc2d6aaecb58ca363ea99b7eb336ab54e32a7e40f"), looks := true }, kinds := [], alts := [], laidByText := true, laidKinds := [.data, .data, .data, .data, .sentinel, .sentinel], laidTests := true, laidLooks := .later }
def SlotTagsUptoCardSaid : Prop := Claim7.holds Tryd.pinned (.plain (OpenSpec.upto slotTagsSpec)) slotTagsUptoCard

/-- THE SECOND FORM's CARD OF 'marshalyardlaw02.SlotOf'. -/
def slotOfUptoCard : Claim7 := { stood := { row := slotOfUptoRow, standIns := [], harness := (true, "61c9813cdb91144ec615b86cc2d6aaecb58ca363ea99b7eb336ab54e32a7e40f"), looks := true }, kinds := [], alts := [], laidByText := true, laidKinds := [.data, .data, .data, .data, .sentinel, .sentinel], laidTests := true, laidLooks := .later }
def SlotOfUptoCardSaid : Prop := Claim7.holds Tryd.pinned (.plain (OpenSpec.upto slotOfSpec)) slotOfUptoCard

/-- THE SECOND FORM's CARD OF 'marshalyardlaw02.SlotAlike'. -/
def slotAlikeUptoCard : Claim7 := { stood := { row := slotAlikeUptoRow, standIns := [], harness := (true, "61c9813cdb91144ec615b86cc2d6aaecb58ca363ea99b7eb336ab54e32a7e40f"), looks := true }, kinds := [], alts := [], laidByText := true, laidKinds := [.data, .data, .data, .data, .sentinel, .sentinel], laidTests := true, laidLooks := .later }
def SlotAlikeUptoCardSaid : Prop := Claim7.holds Tryd.pinned (.plain (OpenSpec.upto slotAlikeSpec)) slotAlikeUptoCard

/-- THE SECOND FORM's CARD OF 'marshalyardlaw02.SlotSets'. -/
def slotSetsUptoCard : Claim7 := { stood := { row := slotSetsUptoRow, standIns := [], harness := (true, "61c9813cdb91144ec615b86cc2d6aaecb58ca363ea99b7eb336ab54e32a7e40f"), looks := true }, kinds := [], alts := [], laidByText := true, laidKinds := [.data, .data, .data, .data, .sentinel, .sentinel], laidTests := true, laidLooks := .later }
def SlotSetsUptoCardSaid : Prop := Claim7.holds Tryd.pinned (.plain (OpenSpec.upto slotSetsSpec)) slotSetsUptoCard

/-- THE SECOND FORM's CARD OF 'marshalyardlaw02.SlotCounts'. -/
def slotCountsUptoCard : Claim7 := { stood := { row := slotCountsUptoRow, standIns := [], harness := (true, "61c9813cdb91144ec615b86cc2d6aaecb58ca363ea99b7eb336ab54e32a7e40f"), looks := true }, kinds := [], alts := [], laidByText := true, laidKinds := [.data, .data, .data, .data, .sentinel, .sentinel], laidTests := true, laidLooks := .later }
def SlotCountsUptoCardSaid : Prop := Claim7.holds Tryd.pinned (.plain (OpenSpec.upto slotCountsSpec)) slotCountsUptoCard

/-- THE SECOND FORM's CARD OF 'marshalyardlaw02.SlotRanges'. -/
def slotRangesUptoCard : Claim7 := { stood := { row := slotRangesUptoRow, standIns := [], harness := (true, "61c9813cdb91144ec615b86cc2d6aaecb58ca363ea99b7eb336ab54e32a7e40f"), looks := true }, kinds := [], alts := [], laidByText := true, laidKinds := [.data, .data, .data, .data, .sentinel, .sentinel], laidTests := true, laidLooks := .later }
def SlotRangesUptoCardSaid : Prop := Claim7.holds Tryd.pinned (.plain (OpenSpec.upto slotRangesSpec)) slotRangesUptoCard
end Rows
end Go.Proofs.YtjjecdeacjbhaaaDoor
