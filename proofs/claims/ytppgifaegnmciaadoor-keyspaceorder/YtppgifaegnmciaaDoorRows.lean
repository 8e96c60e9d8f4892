/-
  NARROWER THAN 'FOR EVERY INPUT', by the rows' own cells (each row's printed sentence says how): KeyspaceFull: laid · KeyspaceOrder: laid.
  DERIVED. THE GIVEN ROWS OF THIS SEAT. 2 by the template 'for every input the law returns true; each argument reads behind the call as it read before'; 0 by the template 'total and deterministic' (their statements: YtppgifaegnmciaaDoorTotals.lean).
  GIVEN WITH THE SEED: the statements are not yours to turn. If you find one false, say at which input.
  Laid BY PROGRAM, IN A SANDBOX (cutbox-rows.mjs): the forced cells as the released guide's own fill.sh prints them over the translation 93c5fe879ab356bd… (all of the seat's roots in one cut). By AI agents, Wed Nov 11 2026. No macro, syntax, notation, axiom, sorry.
-/
import Derived.Test.YtppgifaegnmciaaDoorChecked
import GoSem.Claim
import GoSem.ClaimJoined
import GoSem.ClaimMapViews
import Derived.JoinedTies
import Derived.KernelRfl
namespace Go.Proofs.YtppgifaegnmciaaDoor
/- THE CELL 'sum', in the pinned program and in every row, IS THE sha256 OF THE DUMP (.gsa) THAT YtppgifaegnmciaaDoorProg.lean LOADS. Nothing in Lean hashes anything: it is a label: what it is worth is what the hold of that sum in a sandbox is worth. -/
noncomputable def Tryd.pinned : Pinned := { name := "ytppgifaegnmciaadoor", sum := "93c5fe879ab356bd4ed3b5a647c8acc678e522ab9b83ff56ebd2075835a4a6c1", checked := Tryd.checked }
namespace Rows
def none {H : Type} : Left H := { results := [], args := [] }

/- WHAT THE LISTED PACKAGE-LEVEL VARIABLES READ AS WHEN THE CALL BEGINS. Each datum BY PROGRAM (the guide's laid-datum.mjs) off the statement by which the dump's own 'gosem.cut.vars' lays the variable. In a bare row this is a premise. The card (YtppgifaegnmciaaDoorCards.lean) ties it to the program's text. -/
def laid_marshalyard_crc_halfSums {H : Type} : DataW H := .agg [.lit (.int .u16 0), .lit (.int .u16 4129), .lit (.int .u16 8258), .lit (.int .u16 12387), .lit (.int .u16 16516), .lit (.int .u16 20645), .lit (.int .u16 24774), .lit (.int .u16 28903), .lit (.int .u16 33032), .lit (.int .u16 37161), .lit (.int .u16 41290), .lit (.int .u16 45419), .lit (.int .u16 49548), .lit (.int .u16 53677), .lit (.int .u16 57806), .lit (.int .u16 61935)]

/-- 'marshalyardlaw11.KeyspaceFull': WHATEVER THE INPUT: true; the input reads as it did. -/
def keyspaceFullSpec : ChangeSpec := { name := "keyspaceFull", fn := fun _ => fun
  | [d] => { results := [.lit (.bool true)], args := [d] }
  | _ => none }
def keyspaceFullRow : OpenClaim := { program := "ytppgifaegnmciaadoor", sum := "93c5fe879ab356bd4ed3b5a647c8acc678e522ab9b83ff56ebd2075835a4a6c1", func := "marshalyard/marshalyardlaw11.KeyspaceFull", spec := "keyspaceFull", inPlace := ["internal/bytealg.IndexByteString", "internal/bytealg.IndexString"], unfollowed := true, recurses := true, named := ["marshalyard/crc.halfSums", "internal/bytealg.MaxLen"], apart := false, laid := [("marshalyard/crc.halfSums", laid_marshalyard_crc_halfSums)] }
def KeyspaceFullSaid : Prop := keyspaceFullRow.holds Tryd.pinned (OpenSpec.ofChange keyspaceFullSpec)

/-- ITS FALSE NEIGHBOUR: 'it returns false'. Refute it at one input. -/
def keyspaceFullWrong : ChangeSpec := { name := "keyspaceFull", fn := fun _ => fun
  | [d] => { results := [.lit (.bool false)], args := [d] }
  | _ => none }
def KeyspaceFullWrongFalsely : Prop := keyspaceFullRow.holds Tryd.pinned (OpenSpec.ofChange keyspaceFullWrong)

/-- 'marshalyardlaw11.KeyspaceOrder': WHATEVER THE INPUT: true; the input reads as it did. -/
def keyspaceOrderSpec : ChangeSpec := { name := "keyspaceOrder", fn := fun _ => fun
  | [d] => { results := [.lit (.bool true)], args := [d] }
  | _ => none }
def keyspaceOrderRow : OpenClaim := { program := "ytppgifaegnmciaadoor", sum := "93c5fe879ab356bd4ed3b5a647c8acc678e522ab9b83ff56ebd2075835a4a6c1", func := "marshalyard/marshalyardlaw11.KeyspaceOrder", spec := "keyspaceOrder", inPlace := ["internal/bytealg.IndexByteString", "internal/bytealg.IndexString"], unfollowed := true, recurses := true, named := ["marshalyard/crc.halfSums", "internal/bytealg.MaxLen"], apart := false, laid := [("marshalyard/crc.halfSums", laid_marshalyard_crc_halfSums)] }
def KeyspaceOrderSaid : Prop := keyspaceOrderRow.holds Tryd.pinned (OpenSpec.ofChange keyspaceOrderSpec)

/-- ITS FALSE NEIGHBOUR: 'it returns false'. Refute it at one input. -/
def keyspaceOrderWrong : ChangeSpec := { name := "keyspaceOrder", fn := fun _ => fun
  | [d] => { results := [.lit (.bool false)], args := [d] }
  | _ => none }
def KeyspaceOrderWrongFalsely : Prop := keyspaceOrderRow.holds Tryd.pinned (OpenSpec.ofChange keyspaceOrderWrong)

/- THE SECOND FORM. 'bulk': how many values and letters a reading holds, each counted each time it is reached (what is shared counts as often as it is met; a slice's spare places count too). A statement '..UptoSaid' is the law's where the arguments, and the package variables that the reading takes, are together of bulk at most 1048576: NARROWER than '..Said'. Prove '..Said' where nothing that the law and all that it calls make is longer than what came in: it says more and counts as full. Else prove '..UptoSaid'. A law counts once. -/
mutual
def uptoBulk {H : Type} : DataW H → Nat
  | .lit (.string bytes) => bytes.length + 1
  | .lit _ => 1
  | .nil => 1
  | .ptr d => uptoBulk d + 1
  | .slice elems spare => uptoBulkAll elems + uptoBulkAll spare + 1
  | .agg parts => uptoBulkAll parts + 1
  | .iface _ d => uptoBulk d + 1
  | .map entries => uptoBulkEntries entries + 1
  | .held _ => 1
def uptoBulkAll {H : Type} : List (DataW H) → Nat
  | [] => 0
  | d :: r => uptoBulk d + uptoBulkAll r
def uptoBulkEntries {H : Type} : List (Lit × DataW H) → Nat
  | [] => 0
  | x :: r => uptoBulkEntry x + uptoBulkEntries r
def uptoBulkEntry {H : Type} : Lit × DataW H → Nat
  | (.string bytes, d) => bytes.length + uptoBulk d + 1
  | (_, d) => uptoBulk d + 1
 end
def uptoSmall : (H : Type) → List (DataW H) → Bool := fun _ ds => decide (uptoBulkAll ds ≤ 1048576)
def OpenSpec.upto (s : _root_.Go.ChangeSpec) : _root_.Go.OpenSpec := { _root_.Go.OpenSpec.ofChange s with cond := some uptoSmall }

/-- 'marshalyardlaw11.KeyspaceFull', WHERE WHAT IT READS IS OF BULK AT MOST 1048576: true; the input reads as it did. -/
def keyspaceFullUptoRow : OpenClaim := { program := "ytppgifaegnmciaadoor", sum := "93c5fe879ab356bd4ed3b5a647c8acc678e522ab9b83ff56ebd2075835a4a6c1", func := "marshalyard/marshalyardlaw11.KeyspaceFull", spec := "keyspaceFull", inPlace := ["internal/bytealg.IndexByteString", "internal/bytealg.IndexString"], unfollowed := true, recurses := true, named := ["marshalyard/crc.halfSums", "internal/bytealg.MaxLen"], apart := false, laid := [("marshalyard/crc.halfSums", laid_marshalyard_crc_halfSums)], narrowed := true }
def KeyspaceFullUptoSaid : Prop := keyspaceFullUptoRow.holds Tryd.pinned (OpenSpec.upto keyspaceFullSpec)

/-- 'marshalyardlaw11.KeyspaceOrder', WHERE WHAT IT READS IS OF BULK AT MOST 1048576: true; the input reads as it did. -/
def keyspaceOrderUptoRow : OpenClaim := { program := "ytppgifaegnmciaadoor", sum := "93c5fe879ab356bd4ed3b5a647c8acc678e522ab9b83ff56ebd2075835a4a6c1", func := "marshalyard/marshalyardlaw11.KeyspaceOrder", spec := "keyspaceOrder", inPlace := ["internal/bytealg.IndexByteString", "internal/bytealg.IndexString"], unfollowed := true, recurses := true, named := ["marshalyard/crc.halfSums", "internal/bytealg.MaxLen"], apart := false, laid := [("marshalyard/crc.halfSums", laid_marshalyard_crc_halfSums)], narrowed := true }
def KeyspaceOrderUptoSaid : Prop := keyspaceOrderUptoRow.holds Tryd.pinned (OpenSpec.upto keyspaceOrderSpec)

end Rows
end Go.Proofs.YtppgifaegnmciaaDoor
