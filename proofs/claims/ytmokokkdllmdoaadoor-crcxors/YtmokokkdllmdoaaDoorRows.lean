/-
  NARROWER THAN 'FOR EVERY INPUT', by the rows' own cells (each row's printed sentence says how): CrcSums: laid · CrcMores: laid · CrcJoins: laid · CrcZeros: laid · CrcXors: laid · CrcEnds: laid.
  DERIVED. THE GIVEN ROWS OF THIS SEAT. 6 by the template 'for every input the law returns true; each argument reads behind the call as it read before'; 0 by the template 'total and deterministic' (their statements: YtmokokkdllmdoaaDoorTotals.lean).
  GIVEN WITH THE SEED: the statements are not yours to turn. If you find one false, say at which input.
  Laid BY PROGRAM, IN A SANDBOX (cutbox-rows.mjs): the forced cells as the released guide's own fill.sh prints them over the translation 6888dc1e8ba1f752… (all of the seat's roots in one cut). By AI agents, Wed Nov 11 2026. No macro, syntax, notation, axiom, sorry.
-/
import Derived.Test.YtmokokkdllmdoaaDoorChecked
import GoSem.Claim
import GoSem.ClaimJoined
import GoSem.ClaimMapViews
import Derived.JoinedTies
import Derived.KernelRfl
namespace Go.Proofs.YtmokokkdllmdoaaDoor
/- THE CELL 'sum', in the pinned program and in every row, IS THE sha256 OF THE DUMP (.gsa) THAT YtmokokkdllmdoaaDoorProg.lean LOADS. Nothing in Lean hashes anything: it is a label: what it is worth is what the hold of that sum in a sandbox is worth. -/
noncomputable def Tryd.pinned : Pinned := { name := "ytmokokkdllmdoaadoor", sum := "6888dc1e8ba1f7521da6c3f4dc27b502659c0dc000c70b3aa9e0162b23606f75", checked := Tryd.checked }
namespace Rows
def none {H : Type} : Left H := { results := [], args := [] }

/- WHAT THE LISTED PACKAGE-LEVEL VARIABLES READ AS WHEN THE CALL BEGINS. Each datum BY PROGRAM (the guide's laid-datum.mjs) off the statement by which the dump's own 'gosem.cut.vars' lays the variable. In a bare row this is a premise. The card (YtmokokkdllmdoaaDoorCards.lean) ties it to the program's text. -/
def laid_marshalyard_crc_halfSums {H : Type} : DataW H := .agg [.lit (.int .u16 0), .lit (.int .u16 4129), .lit (.int .u16 8258), .lit (.int .u16 12387), .lit (.int .u16 16516), .lit (.int .u16 20645), .lit (.int .u16 24774), .lit (.int .u16 28903), .lit (.int .u16 33032), .lit (.int .u16 37161), .lit (.int .u16 41290), .lit (.int .u16 45419), .lit (.int .u16 49548), .lit (.int .u16 53677), .lit (.int .u16 57806), .lit (.int .u16 61935)]

/-- 'marshalyardlaw01.CrcSums': WHATEVER THE INPUT: true; the input reads as it did. -/
def crcSumsSpec : ChangeSpec := { name := "crcSums", fn := fun _ => fun
  | [d] => { results := [.lit (.bool true)], args := [d] }
  | _ => none }
def crcSumsRow : OpenClaim := { program := "ytmokokkdllmdoaadoor", sum := "6888dc1e8ba1f7521da6c3f4dc27b502659c0dc000c70b3aa9e0162b23606f75", func := "marshalyard/marshalyardlaw01.CrcSums", spec := "crcSums", named := ["marshalyard/crc.halfSums"], apart := false, laid := [("marshalyard/crc.halfSums", laid_marshalyard_crc_halfSums)] }
def CrcSumsSaid : Prop := crcSumsRow.holds Tryd.pinned (OpenSpec.ofChange crcSumsSpec)

/-- ITS FALSE NEIGHBOUR: 'it returns false'. Refute it at one input. -/
def crcSumsWrong : ChangeSpec := { name := "crcSums", fn := fun _ => fun
  | [d] => { results := [.lit (.bool false)], args := [d] }
  | _ => none }
def CrcSumsWrongFalsely : Prop := crcSumsRow.holds Tryd.pinned (OpenSpec.ofChange crcSumsWrong)

/-- 'marshalyardlaw01.CrcMores': WHATEVER THE INPUT: true; the input reads as it did. -/
def crcMoresSpec : ChangeSpec := { name := "crcMores", fn := fun _ => fun
  | [d1, d2] => { results := [.lit (.bool true)], args := [d1, d2] }
  | _ => none }
def crcMoresRow : OpenClaim := { program := "ytmokokkdllmdoaadoor", sum := "6888dc1e8ba1f7521da6c3f4dc27b502659c0dc000c70b3aa9e0162b23606f75", func := "marshalyard/marshalyardlaw01.CrcMores", spec := "crcMores", named := ["marshalyard/crc.halfSums"], apart := false, laid := [("marshalyard/crc.halfSums", laid_marshalyard_crc_halfSums)] }
def CrcMoresSaid : Prop := crcMoresRow.holds Tryd.pinned (OpenSpec.ofChange crcMoresSpec)

/-- ITS FALSE NEIGHBOUR: 'it returns false'. Refute it at one input. -/
def crcMoresWrong : ChangeSpec := { name := "crcMores", fn := fun _ => fun
  | [d1, d2] => { results := [.lit (.bool false)], args := [d1, d2] }
  | _ => none }
def CrcMoresWrongFalsely : Prop := crcMoresRow.holds Tryd.pinned (OpenSpec.ofChange crcMoresWrong)

/-- 'marshalyardlaw01.CrcJoins': WHATEVER THE INPUT: true; the input reads as it did. -/
def crcJoinsSpec : ChangeSpec := { name := "crcJoins", fn := fun _ => fun
  | [d1, d2] => { results := [.lit (.bool true)], args := [d1, d2] }
  | _ => none }
def crcJoinsRow : OpenClaim := { program := "ytmokokkdllmdoaadoor", sum := "6888dc1e8ba1f7521da6c3f4dc27b502659c0dc000c70b3aa9e0162b23606f75", func := "marshalyard/marshalyardlaw01.CrcJoins", spec := "crcJoins", named := ["marshalyard/crc.halfSums"], apart := false, laid := [("marshalyard/crc.halfSums", laid_marshalyard_crc_halfSums)] }
def CrcJoinsSaid : Prop := crcJoinsRow.holds Tryd.pinned (OpenSpec.ofChange crcJoinsSpec)

/-- ITS FALSE NEIGHBOUR: 'it returns false'. Refute it at one input. -/
def crcJoinsWrong : ChangeSpec := { name := "crcJoins", fn := fun _ => fun
  | [d1, d2] => { results := [.lit (.bool false)], args := [d1, d2] }
  | _ => none }
def CrcJoinsWrongFalsely : Prop := crcJoinsRow.holds Tryd.pinned (OpenSpec.ofChange crcJoinsWrong)

/-- 'marshalyardlaw01.CrcZeros': WHATEVER THE INPUT: true; the input reads as it did. -/
def crcZerosSpec : ChangeSpec := { name := "crcZeros", fn := fun _ => fun
  | [d1, d2] => { results := [.lit (.bool true)], args := [d1, d2] }
  | _ => none }
def crcZerosRow : OpenClaim := { program := "ytmokokkdllmdoaadoor", sum := "6888dc1e8ba1f7521da6c3f4dc27b502659c0dc000c70b3aa9e0162b23606f75", func := "marshalyard/marshalyardlaw01.CrcZeros", spec := "crcZeros", named := ["marshalyard/crc.halfSums"], apart := false, laid := [("marshalyard/crc.halfSums", laid_marshalyard_crc_halfSums)] }
def CrcZerosSaid : Prop := crcZerosRow.holds Tryd.pinned (OpenSpec.ofChange crcZerosSpec)

/-- ITS FALSE NEIGHBOUR: 'it returns false'. Refute it at one input. -/
def crcZerosWrong : ChangeSpec := { name := "crcZeros", fn := fun _ => fun
  | [d1, d2] => { results := [.lit (.bool false)], args := [d1, d2] }
  | _ => none }
def CrcZerosWrongFalsely : Prop := crcZerosRow.holds Tryd.pinned (OpenSpec.ofChange crcZerosWrong)

/-- 'marshalyardlaw01.CrcXors': WHATEVER THE INPUT: true; the input reads as it did. -/
def crcXorsSpec : ChangeSpec := { name := "crcXors", fn := fun _ => fun
  | [d1, d2] => { results := [.lit (.bool true)], args := [d1, d2] }
  | _ => none }
def crcXorsRow : OpenClaim := { program := "ytmokokkdllmdoaadoor", sum := "6888dc1e8ba1f7521da6c3f4dc27b502659c0dc000c70b3aa9e0162b23606f75", func := "marshalyard/marshalyardlaw01.CrcXors", spec := "crcXors", named := ["marshalyard/crc.halfSums"], apart := false, laid := [("marshalyard/crc.halfSums", laid_marshalyard_crc_halfSums)] }
def CrcXorsSaid : Prop := crcXorsRow.holds Tryd.pinned (OpenSpec.ofChange crcXorsSpec)

/-- ITS FALSE NEIGHBOUR: 'it returns false'. Refute it at one input. -/
def crcXorsWrong : ChangeSpec := { name := "crcXors", fn := fun _ => fun
  | [d1, d2] => { results := [.lit (.bool false)], args := [d1, d2] }
  | _ => none }
def CrcXorsWrongFalsely : Prop := crcXorsRow.holds Tryd.pinned (OpenSpec.ofChange crcXorsWrong)

/-- 'marshalyardlaw01.CrcEnds': WHATEVER THE INPUT: true; the input reads as it did. -/
def crcEndsSpec : ChangeSpec := { name := "crcEnds", fn := fun _ => fun
  | [d] => { results := [.lit (.bool true)], args := [d] }
  | _ => none }
def crcEndsRow : OpenClaim := { program := "ytmokokkdllmdoaadoor", sum := "6888dc1e8ba1f7521da6c3f4dc27b502659c0dc000c70b3aa9e0162b23606f75", func := "marshalyard/marshalyardlaw01.CrcEnds", spec := "crcEnds", named := ["marshalyard/crc.halfSums"], apart := false, laid := [("marshalyard/crc.halfSums", laid_marshalyard_crc_halfSums)] }
def CrcEndsSaid : Prop := crcEndsRow.holds Tryd.pinned (OpenSpec.ofChange crcEndsSpec)

/-- ITS FALSE NEIGHBOUR: 'it returns false'. Refute it at one input. -/
def crcEndsWrong : ChangeSpec := { name := "crcEnds", fn := fun _ => fun
  | [d] => { results := [.lit (.bool false)], args := [d] }
  | _ => none }
def CrcEndsWrongFalsely : Prop := crcEndsRow.holds Tryd.pinned (OpenSpec.ofChange crcEndsWrong)

/- THE SECOND FORM. 'bulk': how many values and letters a reading holds, each counted each time it is reached (what is shared counts as often as it is met; a slice's spare places count too). A statement '..UptoSaid' is the law's where the arguments, and the package variables that the reading takes, are together of bulk at most 1048576: NARROWER than '..Said'. Prove '..Said' where nothing that the law and all that it calls make is longer than what came in: it says more and counts as full. Else prove '..UptoSaid'. A law counts once. -/
mutual
def uptoBulk {H : Type} : DataW H → Nat
  | .lit (.string bytes) => bytes.length + 1
  | .lit _ => 1
  | .nil => 1
  | .ptr d => uptoBulk d + 1
  | .slice elems spare => uptoBulkAll elems + uptoBulkAll spare + 1
  | .agg parts => uptoBulkAll parts + 1
  | .iface _ d => uptoBulk d + 1
  | .map entries => uptoBulkEntries entries + 1
  | .held _ => 1
def uptoBulkAll {H : Type} : List (DataW H) → Nat
  | [] => 0
  | d :: r => uptoBulk d + uptoBulkAll r
def uptoBulkEntries {H : Type} : List (Lit × DataW H) → Nat
  | [] => 0
  | x :: r => uptoBulkEntry x + uptoBulkEntries r
def uptoBulkEntry {H : Type} : Lit × DataW H → Nat
  | (.string bytes, d) => bytes.length + uptoBulk d + 1
  | (_, d) => uptoBulk d + 1
 end
def uptoSmall : (H : Type) → List (DataW H) → Bool := fun _ ds => decide (uptoBulkAll ds ≤ 1048576)
def OpenSpec.upto (s : _root_.Go.ChangeSpec) : _root_.Go.OpenSpec := { _root_.Go.OpenSpec.ofChange s with cond := some uptoSmall }

/-- 'marshalyardlaw01.CrcSums', WHERE WHAT IT READS IS OF BULK AT MOST 1048576: true; the input reads as it did. -/
def crcSumsUptoRow : OpenClaim := { program := "ytmokokkdllmdoaadoor", sum := "6888dc1e8ba1f7521da6c3f4dc27b502659c0dc000c70b3aa9e0162b23606f75", func := "marshalyard/marshalyardlaw01.CrcSums", spec := "crcSums", named := ["marshalyard/crc.halfSums"], apart := false, laid := [("marshalyard/crc.halfSums", laid_marshalyard_crc_halfSums)], narrowed := true }
def CrcSumsUptoSaid : Prop := crcSumsUptoRow.holds Tryd.pinned (OpenSpec.upto crcSumsSpec)

/-- 'marshalyardlaw01.CrcMores', WHERE WHAT IT READS IS OF BULK AT MOST 1048576: true; the input reads as it did. -/
def crcMoresUptoRow : OpenClaim := { program := "ytmokokkdllmdoaadoor", sum := "6888dc1e8ba1f7521da6c3f4dc27b502659c0dc000c70b3aa9e0162b23606f75", func := "marshalyard/marshalyardlaw01.CrcMores", spec := "crcMores", named := ["marshalyard/crc.halfSums"], apart := false, laid := [("marshalyard/crc.halfSums", laid_marshalyard_crc_halfSums)], narrowed := true }
def CrcMoresUptoSaid : Prop := crcMoresUptoRow.holds Tryd.pinned (OpenSpec.upto crcMoresSpec)

/-- 'marshalyardlaw01.CrcJoins', WHERE WHAT IT READS IS OF BULK AT MOST 1048576: true; the input reads as it did. -/
def crcJoinsUptoRow : OpenClaim := { program := "ytmokokkdllmdoaadoor", sum := "6888dc1e8ba1f7521da6c3f4dc27b502659c0dc000c70b3aa9e0162b23606f75", func := "marshalyard/marshalyardlaw01.CrcJoins", spec := "crcJoins", named := ["marshalyard/crc.halfSums"], apart := false, laid := [("marshalyard/crc.halfSums", laid_marshalyard_crc_halfSums)], narrowed := true }
def CrcJoinsUptoSaid : Prop := crcJoinsUptoRow.holds Tryd.pinned (OpenSpec.upto crcJoinsSpec)

/-- 'marshalyardlaw01.CrcZeros', WHERE WHAT IT READS IS OF BULK AT MOST 1048576: true; the input reads as it did. -/
def crcZerosUptoRow : OpenClaim := { program := "ytmokokkdllmdoaadoor", sum := "6888dc1e8ba1f7521da6c3f4dc27b502659c0dc000c70b3aa9e0162b23606f75", func := "marshalyard/marshalyardlaw01.CrcZeros", spec := "crcZeros", named := ["marshalyard/crc.halfSums"], apart := false, laid := [("marshalyard/crc.halfSums", laid_marshalyard_crc_halfSums)], narrowed := true }
def CrcZerosUptoSaid : Prop := crcZerosUptoRow.holds Tryd.pinned (OpenSpec.upto crcZerosSpec)

/-- 'marshalyardlaw01.CrcXors', WHERE WHAT IT READS IS OF BULK AT MOST 1048576: true; the input reads as it did. -/
def crcXorsUptoRow : OpenClaim := { program := "ytmokokkdllmdoaadoor", sum := "6888dc1e8ba1f7521da6c3f4dc27b502659c0dc000c70b3aa9e0162b23606f75", func := "marshalyard/marshalyardlaw01.CrcXors", spec := "crcXors", named := ["marshalyard/crc.halfSums"], apart := false, laid := [("marshalyard/crc.halfSums", laid_marshalyard_crc_halfSums)], narrowed := true }
def CrcXorsUptoSaid : Prop := crcXorsUptoRow.holds Tryd.pinned (OpenSpec.upto crcXorsSpec)

/-- 'marshalyardlaw01.CrcEnds', WHERE WHAT IT READS IS OF BULK AT MOST 1048576: true; the input reads as it did. -/
def crcEndsUptoRow : OpenClaim := { program := "ytmokokkdllmdoaadoor", sum := "6888dc1e8ba1f7521da6c3f4dc27b502659c0dc000c70b3aa9e0162b23606f75", func := "marshalyard/marshalyardlaw01.CrcEnds", spec := "crcEnds", named := ["marshalyard/crc.halfSums"], apart := false, laid := [("marshalyard/crc.halfSums", laid_marshalyard_crc_halfSums)], narrowed := true }
def CrcEndsUptoSaid : Prop := crcEndsUptoRow.holds Tryd.pinned (OpenSpec.upto crcEndsSpec)

end Rows
end Go.Proofs.YtmokokkdllmdoaaDoor
