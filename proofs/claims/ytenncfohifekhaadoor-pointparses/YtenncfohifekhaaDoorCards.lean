/-
  DERIVED. GIVEN WITH THE SEED: THE CARDS: each row of YtenncfohifekhaaDoorRows.lean that lists a variable, with what it lists TIED to the program's text (the seventh form; the later family's looks); each row that meets fmt, with fmt's text TOLD by the authors' own Lean function (tested against real Go, not proved from fmt's source: count such statements apart). THE CARD IS WHAT COUNTS. Prove the row's statement (the work); the ties are given (YtenncfohifekhaaDoorTie.lean); close each card by the builder's one call (the guide's Derived/Test/ToyasCard.lean, 'card_holds'). Laid BY PROGRAM, IN A SANDBOX (cutbox-door.mjs). By AI agents, Wed Nov 11 2026. No macro, syntax, notation, axiom, sorry.
-/
import Derived.Test.YtenncfohifekhaaDoorRows
import GoSem.ClaimSeven
namespace Go.Proofs.YtenncfohifekhaaDoor
namespace Rows

/-- THE TIED CARD OF 'marshalyardlaw09.PointAdds'. -/
def pointAddsCard : Claim7 := { stood := { row := pointAddsRow, standIns := [], harness := (true, "bc2d6e3ba8799b3cf671df8ae9ac64a917cce90c12114d581a1940ab43598006"), looks := true }, kinds := [], alts := [], laidByText := true, laidKinds := [.data, .data, .data], laidTests := true, laidLooks := .later }
def PointAddsCardSaid : Prop := Claim7.holds Tryd.pinned (.plain (OpenSpec.ofChange pointAddsSpec)) pointAddsCard

/-- THE TIED CARD OF 'marshalyardlaw09.PointTimes'. -/
def pointTimesCard : Claim7 := { stood := { row := pointTimesRow, standIns := [], harness := (true, "bc2d6e3ba8799b3cf671df8ae9ac64a917cce90c12114d581a1940ab43598006"), looks := true }, kinds := [], alts := [], laidByText := true, laidKinds := [.data, .data, .data], laidTests := true, laidLooks := .later }
def PointTimesCardSaid : Prop := Claim7.holds Tryd.pinned (.plain (OpenSpec.ofChange pointTimesSpec)) pointTimesCard

/-- THE TIED CARD OF 'marshalyardlaw09.PointTurns'. -/
def pointTurnsCard : Claim7 := { stood := { row := pointTurnsRow, standIns := [], harness := (true, "bc2d6e3ba8799b3cf671df8ae9ac64a917cce90c12114d581a1940ab43598006"), looks := true }, kinds := [], alts := [], laidByText := true, laidKinds := [.data, .data, .data], laidTests := true, laidLooks := .later }
def PointTurnsCardSaid : Prop := Claim7.holds Tryd.pinned (.plain (OpenSpec.ofChange pointTurnsSpec)) pointTurnsCard

/-- THE TIED CARD OF 'marshalyardlaw09.PointNorms'. -/
def pointNormsCard : Claim7 := { stood := { row := pointNormsRow, standIns := [], harness := (true, "bc2d6e3ba8799b3cf671df8ae9ac64a917cce90c12114d581a1940ab43598006"), looks := true }, kinds := [], alts := [], laidByText := true, laidKinds := [.data, .data, .data], laidTests := true, laidLooks := .later }
def PointNormsCardSaid : Prop := Claim7.holds Tryd.pinned (.plain (OpenSpec.ofChange pointNormsSpec)) pointNormsCard

/-- THE TIED CARD OF 'marshalyardlaw09.PointPrints'. -/
def pointPrintsCard : Claim7 := { stood := { row := pointPrintsRow, standIns := [], harness := (true, "bc2d6e3ba8799b3cf671df8ae9ac64a917cce90c12114d581a1940ab43598006"), looks := true }, kinds := [], alts := [], laidByText := true, laidKinds := [.data, .data, .data, .data, .sentinel, .sentinel, .pinned], laidTests := true, laidLooks := .later }
def PointPrintsCardSaid : Prop := Claim7.holds Tryd.pinned (.plain (OpenSpec.ofChange pointPrintsSpec)) pointPrintsCard

/-- THE TIED CARD OF 'marshalyardlaw09.PointParses'. -/
def pointParsesCard : Claim7 := { stood := { row := pointParsesRow, standIns := [], harness := (true, "bc2d6e3ba8799b3cf671df8ae9ac64a917cce90c12114d581a1940ab43598006"), looks := true }, kinds := [], alts := [], laidByText := true, laidKinds := [.data, .data, .data, .data, .sentinel, .sentinel, .pinned], laidTests := true, laidLooks := .later }
def PointParsesCardSaid : Prop := Claim7.holds Tryd.pinned (.plain (OpenSpec.ofChange pointParsesSpec)) pointParsesCard

/-- THE SECOND FORM's CARD OF 'marshalyardlaw09.PointAdds'. -/
def pointAddsUptoCard : Claim7 := { stood := { row := pointAddsUptoRow, standIns := [], harness := (true, "bc2d6e3ba8799b3cf671df8ae9ac64a917cce90c12114d581a1940ab43598006"), looks := true }, kinds := [], alts := [], laidByText := true, laidKinds := [.data, .data, .data], laidTests := true, laidLooks := .later }
def PointAddsUptoCardSaid : Prop := Claim7.holds Tryd.pinned (.plain (OpenSpec.upto pointAddsSpec)) pointAddsUptoCard

/-- THE SECOND FORM's CARD OF 'marshalyardlaw09.PointTimes'. -/
def pointTimesUptoCard : Claim7 := { stood := { row := pointTimesUptoRow, standIns := [], harness := (true, "bc2d6e3ba8799b3cf671df8ae9ac64a917cce90c12114d581a1940ab43598006"), looks := true }, kinds := [], alts := [], laidByText := true, laidKinds := [.data, .data, .data], laidTests := true, laidLooks := .later }
def PointTimesUptoCardSaid : Prop := Claim7.holds Tryd.pinned (.plain (OpenSpec.upto pointTimesSpec)) pointTimesUptoCard

/-- THE SECOND FORM's CARD OF 'marshalyardlaw09.PointTurns'. -/
def pointTurnsUptoCard : Claim7 := { stood := { row := pointTurnsUptoRow, standIns := [], harness := (true, "bc2d6e3ba8799b3cf671df8ae9ac64a917cce90c12114d581a1940ab43598006"), looks := true }, kinds := [], alts := [], laidByText := true, laidKinds := [.data, .data, .data], laidTests := true, laidLooks := .later }
def PointTurnsUptoCardSaid : Prop := Claim7.holds Tryd.pinned (.plain (OpenSpec.upto pointTurnsSpec)) pointTurnsUptoCard

/-- THE SECOND FORM's CARD OF 'marshalyardlaw09.PointNorms'. -/
def pointNormsUptoCard : Claim7 := { stood := { row := pointNormsUptoRow, standIns := [], harness := (true, "bc2d6e3ba8799b3cf671df8ae9ac64a917cce90c12114d581a1940ab43598006"), looks := true }, kinds := [], alts := [], laidByText := true, laidKinds := [.data, .data, .data], laidTests := true, laidLooks := .later }
def PointNormsUptoCardSaid : Prop := Claim7.holds Tryd.pinned (.plain (OpenSpec.upto pointNormsSpec)) pointNormsUptoCard

/-- THE SECOND FORM's CARD OF 'marshalyardlaw09.PointPrints'. -/
def pointPrintsUptoCard : Claim7 := { stood := { row := pointPrintsUptoRow, standIns := [], harness := (true, "bc2d6e3ba8799b3cf671df8ae9ac64a917cce90c12114d581a1940ab43598006"), looks := true }, kinds := [], alts := [], laidByText := true, laidKinds := [.data, .data, .data, .data, .sentinel, .sentinel, .pinned], laidTests := true, laidLooks := .later }
def PointPrintsUptoCardSaid : Prop := Claim7.holds Tryd.pinned (.plain (OpenSpec.upto pointPrintsSpec)) pointPrintsUptoCard

/-- THE SECOND FORM's CARD OF 'marshalyardlaw09.PointParses'. -/
def pointParsesUptoCard : Claim7 := { stood := { row := pointParsesUptoRow, standIns := [], harness := (true, "bc2d6e3ba8799b3cf671df8ae9ac64a917cce90c12114d581a1940ab43598006"), looks := true }, kinds := [], alts := [], laidByText := true, laidKinds := [.data, .data, .data, .data, .sentinel, .sentinel, .pinned], laidTests := true, laidLooks := .later }
def PointParsesUptoCardSaid : Prop := Claim7.holds Tryd.pinned (.plain (OpenSpec.upto pointParsesSpec)) pointParsesUptoCard
end Rows
end Go.Proofs.YtenncfohifekhaaDoor
