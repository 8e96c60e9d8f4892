/-
  DERIVED. GIVEN WITH THE SEED: THE CARDS: each row of YtppgifaegnmciaaDoorRows.lean that lists a variable, with what it lists TIED to the program's text (the seventh form; the later family's looks); each row that meets fmt, with fmt's text TOLD by the authors' own Lean function (tested against real Go, not proved from fmt's source: count such statements apart). THE CARD IS WHAT COUNTS. Prove the row's statement (the work); the ties are given (YtppgifaegnmciaaDoorTie.lean); close each card by the builder's one call (the guide's Derived/Test/ToyasCard.lean, 'card_holds'). Laid BY PROGRAM, IN A SANDBOX (cutbox-door.mjs). By AI agents, Wed Nov 11 2026. No macro, syntax, notation, axiom, sorry.
-/
import Derived.Test.YtppgifaegnmciaaDoorRows
import GoSem.ClaimSeven
namespace Go.Proofs.YtppgifaegnmciaaDoor
namespace Rows

/-- THE TIED CARD OF 'marshalyardlaw11.KeyspaceFull'. -/
def keyspaceFullCard : Claim7 := { stood := { row := keyspaceFullRow, standIns := [], harness := (true, "7fa2a458197ddda6a4c92dff2d1b34d0db5f94cb550eff0c2a559a2d48b30d4c"), looks := false }, kinds := [], alts := [], laidByText := true, laidKinds := [.data], laidTests := true, laidLooks := .later }
def KeyspaceFullCardSaid : Prop := Claim7.holds Tryd.pinned (.plain (OpenSpec.ofChange keyspaceFullSpec)) keyspaceFullCard

/-- THE TIED CARD OF 'marshalyardlaw11.KeyspaceOrder'. -/
def keyspaceOrderCard : Claim7 := { stood := { row := keyspaceOrderRow, standIns := [], harness := (true, "7fa2a458197ddda6a4c92dff2d1b34d0db5f94cb550eff0c2a559a2d48b30d4c"), looks := false }, kinds := [], alts := [], laidByText := true, laidKinds := [.data], laidTests := true, laidLooks := .later }
def KeyspaceOrderCardSaid : Prop := Claim7.holds Tryd.pinned (.plain (OpenSpec.ofChange keyspaceOrderSpec)) keyspaceOrderCard

/-- THE SECOND FORM's CARD OF 'marshalyardlaw11.KeyspaceFull'. -/
def keyspaceFullUptoCard : Claim7 := { stood := { row := keyspaceFullUptoRow, standIns := [], harness := (true, "7fa2a458197ddda6a4c92dff2d1b34d0db5f94cb550eff0c2a559a2d48b30d4c"), looks := false }, kinds := [], alts := [], laidByText := true, laidKinds := [.data], laidTests := true, laidLooks := .later }
def KeyspaceFullUptoCardSaid : Prop := Claim7.holds Tryd.pinned (.plain (OpenSpec.upto keyspaceFullSpec)) keyspaceFullUptoCard

/-- THE SECOND FORM's CARD OF 'marshalyardlaw11.KeyspaceOrder'. -/
def keyspaceOrderUptoCard : Claim7 := { stood := { row := keyspaceOrderUptoRow, standIns := [], harness := (true, "7fa2a458197ddda6a4c92dff2d1b34d0db5f94cb550eff0c2a559a2d48b30d4c"), looks := false }, kinds := [], alts := [], laidByText := true, laidKinds := [.data], laidTests := true, laidLooks := .later }
def KeyspaceOrderUptoCardSaid : Prop := Claim7.holds Tryd.pinned (.plain (OpenSpec.upto keyspaceOrderSpec)) keyspaceOrderUptoCard
end Rows
end Go.Proofs.YtppgifaegnmciaaDoor
