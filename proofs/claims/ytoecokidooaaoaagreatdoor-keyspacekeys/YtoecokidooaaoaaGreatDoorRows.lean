/-
  NARROWER THAN 'FOR EVERY INPUT', by the rows' own cells (each row's printed sentence says how): KeyspaceAll: laid · KeyspaceKeys: laid · KeyspaceEnds: laid · KeyspaceApart: laid · KeyspaceBack: laid.
  DERIVED. THE GIVEN ROWS OF THIS SEAT. 5 by the template 'for every input the law returns true; each argument reads behind the call as it read before'; 0 by the template 'total and deterministic' (their statements: YtoecokidooaaoaaGreatDoorTotals.lean).
  GIVEN WITH THE SEED: the statements are not yours to turn. If you find one false, say at which input.
  Laid BY PROGRAM, IN A SANDBOX (cutbox-rows.mjs): the forced cells as the released guide's own fill.sh prints them over the translation 6d105d7803bd262c… (all of the seat's roots in one cut). By AI agents, Wed Nov 11 2026. No macro, syntax, notation, axiom, sorry.
-/
import Derived.Test.YtoecokidooaaoaaGreatDoorChecked
import GoSem.Claim
import GoSem.ClaimJoined
import GoSem.ClaimMapViews
import Derived.JoinedTies
import Derived.KernelRfl
namespace Go.Proofs.YtoecokidooaaoaaGreatDoor
/- THE CELL 'sum', in the pinned program and in every row, IS THE sha256 OF THE DUMP (.gsa) THAT YtoecokidooaaoaaGreatDoorProg.lean LOADS. Nothing in Lean hashes anything: it is a label: what it is worth is what the hold of that sum in a sandbox is worth. -/
noncomputable def Tryz.pinned : Pinned := { name := "ytoecokidooaaoaagreatdoor", sum := "6d105d7803bd262cabdcbb6d088d56201aeb9eed3fd995837e42d2f55957d4d0", checked := Tryz.checked }
namespace Rows
def none {H : Type} : Left H := { results := [], args := [] }

/- WHAT THE LISTED PACKAGE-LEVEL VARIABLES READ AS WHEN THE CALL BEGINS. Each datum BY PROGRAM (the guide's laid-datum.mjs) off the statement by which the dump's own 'gosem.cut.vars' lays the variable. In a bare row this is a premise. The card (YtoecokidooaaoaaGreatDoorCards.lean) ties it to the program's text. -/
def laid_marshalyard_crc_halfSums {H : Type} : DataW H := .agg [.lit (.int .u16 0), .lit (.int .u16 4129), .lit (.int .u16 8258), .lit (.int .u16 12387), .lit (.int .u16 16516), .lit (.int .u16 20645), .lit (.int .u16 24774), .lit (.int .u16 28903), .lit (.int .u16 33032), .lit (.int .u16 37161), .lit (.int .u16 41290), .lit (.int .u16 45419), .lit (.int .u16 49548), .lit (.int .u16 53677), .lit (.int .u16 57806), .lit (.int .u16 61935)]

/-- 'marshalyardlaw11.KeyspaceAll': WHATEVER THE INPUT: true; the input reads as it did. -/
def keyspaceAllSpec : ChangeSpec := { name := "keyspaceAll", fn := fun _ => fun
  | [d1, d2] => { results := [.lit (.bool true)], args := [d1, d2] }
  | _ => none }
def keyspaceAllRow : OpenClaim := { program := "ytoecokidooaaoaagreatdoor", sum := "6d105d7803bd262cabdcbb6d088d56201aeb9eed3fd995837e42d2f55957d4d0", func := "marshalyard/marshalyardlaw11.KeyspaceAll", spec := "keyspaceAll", inPlace := ["internal/bytealg.IndexByteString", "internal/bytealg.IndexString"], unfollowed := true, recurses := true, named := ["marshalyard/crc.halfSums", "internal/bytealg.MaxLen"], apart := false, laid := [("marshalyard/crc.halfSums", laid_marshalyard_crc_halfSums)] }
def KeyspaceAllSaid : Prop := keyspaceAllRow.holds Tryz.pinned (OpenSpec.ofChange keyspaceAllSpec)

/-- ITS FALSE NEIGHBOUR: 'it returns false'. Refute it at one input. -/
def keyspaceAllWrong : ChangeSpec := { name := "keyspaceAll", fn := fun _ => fun
  | [d1, d2] => { results := [.lit (.bool false)], args := [d1, d2] }
  | _ => none }
def KeyspaceAllWrongFalsely : Prop := keyspaceAllRow.holds Tryz.pinned (OpenSpec.ofChange keyspaceAllWrong)

/-- 'marshalyardlaw11.KeyspaceKeys': WHATEVER THE INPUT: true; the input reads as it did. -/
def keyspaceKeysSpec : ChangeSpec := { name := "keyspaceKeys", fn := fun _ => fun
  | [d1, d2, d3] => { results := [.lit (.bool true)], args := [d1, d2, d3] }
  | _ => none }
def keyspaceKeysRow : OpenClaim := { program := "ytoecokidooaaoaagreatdoor", sum := "6d105d7803bd262cabdcbb6d088d56201aeb9eed3fd995837e42d2f55957d4d0", func := "marshalyard/marshalyardlaw11.KeyspaceKeys", spec := "keyspaceKeys", inPlace := ["internal/bytealg.IndexByteString", "internal/bytealg.IndexString"], unfollowed := true, recurses := true, named := ["marshalyard/crc.halfSums", "internal/bytealg.MaxLen"], apart := false, laid := [("marshalyard/crc.halfSums", laid_marshalyard_crc_halfSums)] }
def KeyspaceKeysSaid : Prop := keyspaceKeysRow.holds Tryz.pinned (OpenSpec.ofChange keyspaceKeysSpec)

/-- ITS FALSE NEIGHBOUR: 'it returns false'. Refute it at one input. -/
def keyspaceKeysWrong : ChangeSpec := { name := "keyspaceKeys", fn := fun _ => fun
  | [d1, d2, d3] => { results := [.lit (.bool false)], args := [d1, d2, d3] }
  | _ => none }
def KeyspaceKeysWrongFalsely : Prop := keyspaceKeysRow.holds Tryz.pinned (OpenSpec.ofChange keyspaceKeysWrong)

/-- 'marshalyardlaw11.KeyspaceEnds': WHATEVER THE INPUT: true; the input reads as it did. -/
def keyspaceEndsSpec : ChangeSpec := { name := "keyspaceEnds", fn := fun _ => fun
  | [d1, d2] => { results := [.lit (.bool true)], args := [d1, d2] }
  | _ => none }
def keyspaceEndsRow : OpenClaim := { program := "ytoecokidooaaoaagreatdoor", sum := "6d105d7803bd262cabdcbb6d088d56201aeb9eed3fd995837e42d2f55957d4d0", func := "marshalyard/marshalyardlaw11.KeyspaceEnds", spec := "keyspaceEnds", inPlace := ["internal/bytealg.IndexByteString", "internal/bytealg.IndexString"], unfollowed := true, recurses := true, named := ["marshalyard/crc.halfSums", "internal/bytealg.MaxLen"], apart := false, laid := [("marshalyard/crc.halfSums", laid_marshalyard_crc_halfSums)] }
def KeyspaceEndsSaid : Prop := keyspaceEndsRow.holds Tryz.pinned (OpenSpec.ofChange keyspaceEndsSpec)

/-- ITS FALSE NEIGHBOUR: 'it returns false'. Refute it at one input. -/
def keyspaceEndsWrong : ChangeSpec := { name := "keyspaceEnds", fn := fun _ => fun
  | [d1, d2] => { results := [.lit (.bool false)], args := [d1, d2] }
  | _ => none }
def KeyspaceEndsWrongFalsely : Prop := keyspaceEndsRow.holds Tryz.pinned (OpenSpec.ofChange keyspaceEndsWrong)

/-- 'marshalyardlaw11.KeyspaceApart': WHATEVER THE INPUT: true; the input reads as it did. -/
def keyspaceApartSpec : ChangeSpec := { name := "keyspaceApart", fn := fun _ => fun
  | [d1, d2] => { results := [.lit (.bool true)], args := [d1, d2] }
  | _ => none }
def keyspaceApartRow : OpenClaim := { program := "ytoecokidooaaoaagreatdoor", sum := "6d105d7803bd262cabdcbb6d088d56201aeb9eed3fd995837e42d2f55957d4d0", func := "marshalyard/marshalyardlaw11.KeyspaceApart", spec := "keyspaceApart", inPlace := ["internal/bytealg.IndexByteString", "internal/bytealg.IndexString", "maps.clone"], unfollowed := true, recurses := true, named := ["marshalyard/crc.halfSums", "internal/bytealg.MaxLen"], apart := false, laid := [("marshalyard/crc.halfSums", laid_marshalyard_crc_halfSums)] }
def KeyspaceApartSaid : Prop := keyspaceApartRow.holds Tryz.pinned (OpenSpec.ofChange keyspaceApartSpec)

/-- ITS FALSE NEIGHBOUR: 'it returns false'. Refute it at one input. -/
def keyspaceApartWrong : ChangeSpec := { name := "keyspaceApart", fn := fun _ => fun
  | [d1, d2] => { results := [.lit (.bool false)], args := [d1, d2] }
  | _ => none }
def KeyspaceApartWrongFalsely : Prop := keyspaceApartRow.holds Tryz.pinned (OpenSpec.ofChange keyspaceApartWrong)

/-- 'marshalyardlaw11.KeyspaceBack': WHATEVER THE INPUT: true; the input reads as it did. -/
def keyspaceBackSpec : ChangeSpec := { name := "keyspaceBack", fn := fun _ => fun
  | [d1, d2] => { results := [.lit (.bool true)], args := [d1, d2] }
  | _ => none }
def keyspaceBackRow : OpenClaim := { program := "ytoecokidooaaoaagreatdoor", sum := "6d105d7803bd262cabdcbb6d088d56201aeb9eed3fd995837e42d2f55957d4d0", func := "marshalyard/marshalyardlaw11.KeyspaceBack", spec := "keyspaceBack", inPlace := ["internal/bytealg.IndexByteString", "internal/bytealg.IndexString"], unfollowed := true, recurses := true, named := ["marshalyard/crc.halfSums", "internal/bytealg.MaxLen"], apart := false, laid := [("marshalyard/crc.halfSums", laid_marshalyard_crc_halfSums)] }
def KeyspaceBackSaid : Prop := keyspaceBackRow.holds Tryz.pinned (OpenSpec.ofChange keyspaceBackSpec)

/-- ITS FALSE NEIGHBOUR: 'it returns false'. Refute it at one input. -/
def keyspaceBackWrong : ChangeSpec := { name := "keyspaceBack", fn := fun _ => fun
  | [d1, d2] => { results := [.lit (.bool false)], args := [d1, d2] }
  | _ => none }
def KeyspaceBackWrongFalsely : Prop := keyspaceBackRow.holds Tryz.pinned (OpenSpec.ofChange keyspaceBackWrong)

/- THE SECOND FORM. 'bulk': how many values and letters a reading holds, each counted each time it is reached (what is shared counts as often as it is met; a slice's spare places count too). A statement '..UptoSaid' is the law's where the arguments, and the package variables that the reading takes, are together of bulk at most 1048576: NARROWER than '..Said'. Prove '..Said' where nothing that the law and all that it calls make is longer than what came in: it says more and counts as full. Else prove '..UptoSaid'. A law counts once. -/
mutual
def uptoBulk {H : Type} : DataW H → Nat
  | .lit (.string bytes) => bytes.length + 1
  | .lit _ => 1
  | .nil => 1
  | .ptr d => uptoBulk d + 1
  | .slice elems spare => uptoBulkAll elems + uptoBulkAll spare + 1
  | .agg parts => uptoBulkAll parts + 1
  | .iface _ d => uptoBulk d + 1
  | .map entries => uptoBulkEntries entries + 1
  | .held _ => 1
def uptoBulkAll {H : Type} : List (DataW H) → Nat
  | [] => 0
  | d :: r => uptoBulk d + uptoBulkAll r
def uptoBulkEntries {H : Type} : List (Lit × DataW H) → Nat
  | [] => 0
  | x :: r => uptoBulkEntry x + uptoBulkEntries r
def uptoBulkEntry {H : Type} : Lit × DataW H → Nat
  | (.string bytes, d) => bytes.length + uptoBulk d + 1
  | (_, d) => uptoBulk d + 1
 end
def uptoSmall : (H : Type) → List (DataW H) → Bool := fun _ ds => decide (uptoBulkAll ds ≤ 1048576)
def OpenSpec.upto (s : _root_.Go.ChangeSpec) : _root_.Go.OpenSpec := { _root_.Go.OpenSpec.ofChange s with cond := some uptoSmall }

/-- 'marshalyardlaw11.KeyspaceAll', WHERE WHAT IT READS IS OF BULK AT MOST 1048576: true; the input reads as it did. -/
def keyspaceAllUptoRow : OpenClaim := { program := "ytoecokidooaaoaagreatdoor", sum := "6d105d7803bd262cabdcbb6d088d56201aeb9eed3fd995837e42d2f55957d4d0", func := "marshalyard/marshalyardlaw11.KeyspaceAll", spec := "keyspaceAll", inPlace := ["internal/bytealg.IndexByteString", "internal/bytealg.IndexString"], unfollowed := true, recurses := true, named := ["marshalyard/crc.halfSums", "internal/bytealg.MaxLen"], apart := false, laid := [("marshalyard/crc.halfSums", laid_marshalyard_crc_halfSums)], narrowed := true }
def KeyspaceAllUptoSaid : Prop := keyspaceAllUptoRow.holds Tryz.pinned (OpenSpec.upto keyspaceAllSpec)

/-- 'marshalyardlaw11.KeyspaceKeys', WHERE WHAT IT READS IS OF BULK AT MOST 1048576: true; the input reads as it did. -/
def keyspaceKeysUptoRow : OpenClaim := { program := "ytoecokidooaaoaagreatdoor", sum := "6d105d7803bd262cabdcbb6d088d56201aeb9eed3fd995837e42d2f55957d4d0", func := "marshalyard/marshalyardlaw11.KeyspaceKeys", spec := "keyspaceKeys", inPlace := ["internal/bytealg.IndexByteString", "internal/bytealg.IndexString"], unfollowed := true, recurses := true, named := ["marshalyard/crc.halfSums", "internal/bytealg.MaxLen"], apart := false, laid := [("marshalyard/crc.halfSums", laid_marshalyard_crc_halfSums)], narrowed := true }
def KeyspaceKeysUptoSaid : Prop := keyspaceKeysUptoRow.holds Tryz.pinned (OpenSpec.upto keyspaceKeysSpec)

/-- 'marshalyardlaw11.KeyspaceEnds', WHERE WHAT IT READS IS OF BULK AT MOST 1048576: true; the input reads as it did. -/
def keyspaceEndsUptoRow : OpenClaim := { program := "ytoecokidooaaoaagreatdoor", sum := "6d105d7803bd262cabdcbb6d088d56201aeb9eed3fd995837e42d2f55957d4d0", func := "marshalyard/marshalyardlaw11.KeyspaceEnds", spec := "keyspaceEnds", inPlace := ["internal/bytealg.IndexByteString", "internal/bytealg.IndexString"], unfollowed := true, recurses := true, named := ["marshalyard/crc.halfSums", "internal/bytealg.MaxLen"], apart := false, laid := [("marshalyard/crc.halfSums", laid_marshalyard_crc_halfSums)], narrowed := true }
def KeyspaceEndsUptoSaid : Prop := keyspaceEndsUptoRow.holds Tryz.pinned (OpenSpec.upto keyspaceEndsSpec)

/-- 'marshalyardlaw11.KeyspaceApart', WHERE WHAT IT READS IS OF BULK AT MOST 1048576: true; the input reads as it did. -/
def keyspaceApartUptoRow : OpenClaim := { program := "ytoecokidooaaoaagreatdoor", sum := "6d105d7803bd262cabdcbb6d088d56201aeb9eed3fd995837e42d2f55957d4d0", func := "marshalyard/marshalyardlaw11.KeyspaceApart", spec := "keyspaceApart", inPlace := ["internal/bytealg.IndexByteString", "internal/bytealg.IndexString", "maps.clone"], unfollowed := true, recurses := true, named := ["marshalyard/crc.halfSums", "internal/bytealg.MaxLen"], apart := false, laid := [("marshalyard/crc.halfSums", laid_marshalyard_crc_halfSums)], narrowed := true }
def KeyspaceApartUptoSaid : Prop := keyspaceApartUptoRow.holds Tryz.pinned (OpenSpec.upto keyspaceApartSpec)

/-- 'marshalyardlaw11.KeyspaceBack', WHERE WHAT IT READS IS OF BULK AT MOST 1048576: true; the input reads as it did. -/
def keyspaceBackUptoRow : OpenClaim := { program := "ytoecokidooaaoaagreatdoor", sum := "6d105d7803bd262cabdcbb6d088d56201aeb9eed3fd995837e42d2f55957d4d0", func := "marshalyard/marshalyardlaw11.KeyspaceBack", spec := "keyspaceBack", inPlace := ["internal/bytealg.IndexByteString", "internal/bytealg.IndexString"], unfollowed := true, recurses := true, named := ["marshalyard/crc.halfSums", "internal/bytealg.MaxLen"], apart := false, laid := [("marshalyard/crc.halfSums", laid_marshalyard_crc_halfSums)], narrowed := true }
def KeyspaceBackUptoSaid : Prop := keyspaceBackUptoRow.holds Tryz.pinned (OpenSpec.upto keyspaceBackSpec)

end Rows
end Go.Proofs.YtoecokidooaaoaaGreatDoor
