/-
  DERIVED. GIVEN WITH THE SEED: THE CARDS: each row of YtmokokkdllmdoabDoorRows.lean that lists a variable, with what it lists TIED to the program's text (the seventh form; the later family's looks); each row that meets fmt, with fmt's text TOLD by the authors' own Lean function (tested against real Go, not proved from fmt's source: count such statements apart). THE CARD IS WHAT COUNTS. Prove the row's statement (the work); the ties are given (YtmokokkdllmdoabDoorTie.lean); close each card by the builder's one call (the guide's Derived/Test/ToyasCard.lean, 'card_holds'). Laid BY PROGRAM, IN A SANDBOX (cutbox-door.mjs). By AI agents, Wed Nov 11 2026. No macro, syntax, notation, axiom, sorry.
-/
import Derived.Test.YtmokokkdllmdoabDoorRows
import GoSem.ClaimSeven
namespace Go.Proofs.YtmokokkdllmdoabDoor
namespace Rows

/-- THE TIED CARD OF 'marshalyardlaw01.CrcBursts'. -/
def crcBurstsCard : Claim7 := { stood := { row := crcBurstsRow, standIns := [], harness := (true, "594a0cc3ac210ba1d27e84007236fccffed0980a10007eea42ca1ee87a1d7837"), looks := false }, kinds := [], alts := [], laidByText := true, laidKinds := [.data], laidTests := true, laidLooks := .later }
def CrcBurstsCardSaid : Prop := Claim7.holds Tryd.pinned (.plain (OpenSpec.ofChange crcBurstsSpec)) crcBurstsCard

/-- THE TIED CARD OF 'marshalyardlaw01.CrcPairs'. -/
def crcPairsCard : Claim7 := { stood := { row := crcPairsRow, standIns := [], harness := (true, "594a0cc3ac210ba1d27e84007236fccffed0980a10007eea42ca1ee87a1d7837"), looks := false }, kinds := [], alts := [], laidByText := true, laidKinds := [.data], laidTests := true, laidLooks := .later }
def CrcPairsCardSaid : Prop := Claim7.holds Tryd.pinned (.plain (OpenSpec.ofChange crcPairsSpec)) crcPairsCard

/-- THE SECOND FORM's CARD OF 'marshalyardlaw01.CrcBursts'. -/
def crcBurstsUptoCard : Claim7 := { stood := { row := crcBurstsUptoRow, standIns := [], harness := (true, "594a0cc3ac210ba1d27e84007236fccffed0980a10007eea42ca1ee87a1d7837"), looks := false }, kinds := [], alts := [], laidByText := true, laidKinds := [.data], laidTests := true, laidLooks := .later }
def CrcBurstsUptoCardSaid : Prop := Claim7.holds Tryd.pinned (.plain (OpenSpec.upto crcBurstsSpec)) crcBurstsUptoCard

/-- THE SECOND FORM's CARD OF 'marshalyardlaw01.CrcPairs'. -/
def crcPairsUptoCard : Claim7 := { stood := { row := crcPairsUptoRow, standIns := [], harness := (true, "594a0cc3ac210ba1d27e84007236fccffed0980a10007eea42ca1ee87a1d7837"), looks := false }, kinds := [], alts := [], laidByText := true, laidKinds := [.data], laidTests := true, laidLooks := .later }
def CrcPairsUptoCardSaid : Prop := Claim7.holds Tryd.pinned (.plain (OpenSpec.upto crcPairsSpec)) crcPairsUptoCard
end Rows
end Go.Proofs.YtmokokkdllmdoabDoor
