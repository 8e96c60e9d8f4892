/-
  No cell of these rows narrows 'for every input' (looked for: loops, veiled, ifaces, maps, wideKeys, modest, calm, conditions, laid).
  DERIVED. THE GIVEN ROWS OF THIS SEAT. 6 by the template 'for every input the law returns true; each argument reads behind the call as it read before'; 0 by the template 'total and deterministic' (their statements: YtndmhfhihajbdaaTotals.lean).
  GIVEN WITH THE SEED: the statements are not yours to turn. If you find one false, say at which input.
  Laid BY PROGRAM, IN A SANDBOX (cutbox-rows.mjs): the forced cells as the released guide's own fill.sh prints them over the translation e5458de82a762e2f… (all of the seat's roots in one cut). By AI agents, Wed Nov 11 2026. No macro, syntax, notation, axiom, sorry.
-/
import Derived.Test.YtndmhfhihajbdaaChecked
import GoSem.Claim
import GoSem.ClaimJoined
import GoSem.ClaimMapViews
import Derived.JoinedTies
import Derived.KernelRfl
namespace Go.Proofs.Ytndmhfhihajbdaa
/- THE CELL 'sum', in the pinned program and in every row, IS THE sha256 OF THE DUMP (.gsa) THAT YtndmhfhihajbdaaProg.lean LOADS. Nothing in Lean hashes anything: it is a label: what it is worth is what the hold of that sum in a sandbox is worth. -/
noncomputable def Try.pinned : Pinned := { name := "ytndmhfhihajbdaa", sum := "e5458de82a762e2fc3a8f1c26c33616213cfd421283cd78d8f59a01bacbc5410", checked := Try.checked }
namespace Rows
def none {H : Type} : Left H := { results := [], args := [] }

/-- 'marshalyardlaw12.TableAll': WHATEVER THE INPUT: true; the input reads as it did. -/
def tableAllSpec : ChangeSpec := { name := "tableAll", fn := fun _ => fun
  | [d1, d2] => { results := [.lit (.bool true)], args := [d1, d2] }
  | _ => none }
def tableAllRow : OpenClaim := { program := "ytndmhfhihajbdaa", sum := "e5458de82a762e2fc3a8f1c26c33616213cfd421283cd78d8f59a01bacbc5410", func := "marshalyard/marshalyardlaw12.TableAll", spec := "tableAll", apart := false }
def TableAllSaid : Prop := tableAllRow.holds Try.pinned (OpenSpec.ofChange tableAllSpec)

/-- ITS FALSE NEIGHBOUR: 'it returns false'. Refute it at one input. -/
def tableAllWrong : ChangeSpec := { name := "tableAll", fn := fun _ => fun
  | [d1, d2] => { results := [.lit (.bool false)], args := [d1, d2] }
  | _ => none }
def TableAllWrongFalsely : Prop := tableAllRow.holds Try.pinned (OpenSpec.ofChange tableAllWrong)

/-- 'marshalyardlaw12.TableFinds': WHATEVER THE INPUT: true; the input reads as it did. -/
def tableFindsSpec : ChangeSpec := { name := "tableFinds", fn := fun _ => fun
  | [d] => { results := [.lit (.bool true)], args := [d] }
  | _ => none }
def tableFindsRow : OpenClaim := { program := "ytndmhfhihajbdaa", sum := "e5458de82a762e2fc3a8f1c26c33616213cfd421283cd78d8f59a01bacbc5410", func := "marshalyard/marshalyardlaw12.TableFinds", spec := "tableFinds", apart := false }
def TableFindsSaid : Prop := tableFindsRow.holds Try.pinned (OpenSpec.ofChange tableFindsSpec)

/-- ITS FALSE NEIGHBOUR: 'it returns false'. Refute it at one input. -/
def tableFindsWrong : ChangeSpec := { name := "tableFinds", fn := fun _ => fun
  | [d] => { results := [.lit (.bool false)], args := [d] }
  | _ => none }
def TableFindsWrongFalsely : Prop := tableFindsRow.holds Try.pinned (OpenSpec.ofChange tableFindsWrong)

/-- 'marshalyardlaw12.TableChecks': WHATEVER THE INPUT: true; the input reads as it did. -/
def tableChecksSpec : ChangeSpec := { name := "tableChecks", fn := fun _ => fun
  | [d] => { results := [.lit (.bool true)], args := [d] }
  | _ => none }
def tableChecksRow : OpenClaim := { program := "ytndmhfhihajbdaa", sum := "e5458de82a762e2fc3a8f1c26c33616213cfd421283cd78d8f59a01bacbc5410", func := "marshalyard/marshalyardlaw12.TableChecks", spec := "tableChecks", apart := false }
def TableChecksSaid : Prop := tableChecksRow.holds Try.pinned (OpenSpec.ofChange tableChecksSpec)

/-- ITS FALSE NEIGHBOUR: 'it returns false'. Refute it at one input. -/
def tableChecksWrong : ChangeSpec := { name := "tableChecks", fn := fun _ => fun
  | [d] => { results := [.lit (.bool false)], args := [d] }
  | _ => none }
def TableChecksWrongFalsely : Prop := tableChecksRow.holds Try.pinned (OpenSpec.ofChange tableChecksWrong)

/-- 'marshalyardlaw12.TableKeys': WHATEVER THE INPUT: true; the input reads as it did. -/
def tableKeysSpec : ChangeSpec := { name := "tableKeys", fn := fun _ => fun
  | [d] => { results := [.lit (.bool true)], args := [d] }
  | _ => none }
def tableKeysRow : OpenClaim := { program := "ytndmhfhihajbdaa", sum := "e5458de82a762e2fc3a8f1c26c33616213cfd421283cd78d8f59a01bacbc5410", func := "marshalyard/marshalyardlaw12.TableKeys", spec := "tableKeys", apart := false }
def TableKeysSaid : Prop := tableKeysRow.holds Try.pinned (OpenSpec.ofChange tableKeysSpec)

/-- ITS FALSE NEIGHBOUR: 'it returns false'. Refute it at one input. -/
def tableKeysWrong : ChangeSpec := { name := "tableKeys", fn := fun _ => fun
  | [d] => { results := [.lit (.bool false)], args := [d] }
  | _ => none }
def TableKeysWrongFalsely : Prop := tableKeysRow.holds Try.pinned (OpenSpec.ofChange tableKeysWrong)

/-- 'marshalyardlaw12.TableLetters': WHATEVER THE INPUT: true; the input reads as it did. -/
def tableLettersSpec : ChangeSpec := { name := "tableLetters", fn := fun _ => fun
  | [d1, d2] => { results := [.lit (.bool true)], args := [d1, d2] }
  | _ => none }
def tableLettersRow : OpenClaim := { program := "ytndmhfhihajbdaa", sum := "e5458de82a762e2fc3a8f1c26c33616213cfd421283cd78d8f59a01bacbc5410", func := "marshalyard/marshalyardlaw12.TableLetters", spec := "tableLetters", apart := false }
def TableLettersSaid : Prop := tableLettersRow.holds Try.pinned (OpenSpec.ofChange tableLettersSpec)

/-- ITS FALSE NEIGHBOUR: 'it returns false'. Refute it at one input. -/
def tableLettersWrong : ChangeSpec := { name := "tableLetters", fn := fun _ => fun
  | [d1, d2] => { results := [.lit (.bool false)], args := [d1, d2] }
  | _ => none }
def TableLettersWrongFalsely : Prop := tableLettersRow.holds Try.pinned (OpenSpec.ofChange tableLettersWrong)

/-- 'marshalyardlaw12.TableStands': WHATEVER THE INPUT: true; the input reads as it did. -/
def tableStandsSpec : ChangeSpec := { name := "tableStands", fn := fun _ => fun
  | [d] => { results := [.lit (.bool true)], args := [d] }
  | _ => none }
def tableStandsRow : OpenClaim := { program := "ytndmhfhihajbdaa", sum := "e5458de82a762e2fc3a8f1c26c33616213cfd421283cd78d8f59a01bacbc5410", func := "marshalyard/marshalyardlaw12.TableStands", spec := "tableStands", apart := false }
def TableStandsSaid : Prop := tableStandsRow.holds Try.pinned (OpenSpec.ofChange tableStandsSpec)

/-- ITS FALSE NEIGHBOUR: 'it returns false'. Refute it at one input. -/
def tableStandsWrong : ChangeSpec := { name := "tableStands", fn := fun _ => fun
  | [d] => { results := [.lit (.bool false)], args := [d] }
  | _ => none }
def TableStandsWrongFalsely : Prop := tableStandsRow.holds Try.pinned (OpenSpec.ofChange tableStandsWrong)

/- THE SECOND FORM. 'bulk': how many values and letters a reading holds, each counted each time it is reached (what is shared counts as often as it is met; a slice's spare places count too). A statement '..UptoSaid' is the law's where the arguments, and the package variables that the reading takes, are together of bulk at most 1048576: NARROWER than '..Said'. Prove '..Said' where nothing that the law and all that it calls make is longer than what came in: it says more and counts as full. Else prove '..UptoSaid'. A law counts once. -/
mutual
def uptoBulk {H : Type} : DataW H → Nat
  | .lit (.string bytes) => bytes.length + 1
  | .lit _ => 1
  | .nil => 1
  | .ptr d => uptoBulk d + 1
  | .slice elems spare => uptoBulkAll elems + uptoBulkAll spare + 1
  | .agg parts => uptoBulkAll parts + 1
  | .iface _ d => uptoBulk d + 1
  | .map entries => uptoBulkEntries entries + 1
  | .held _ => 1
def uptoBulkAll {H : Type} : List (DataW H) → Nat
  | [] => 0
  | d :: r => uptoBulk d + uptoBulkAll r
def uptoBulkEntries {H : Type} : List (Lit × DataW H) → Nat
  | [] => 0
  | x :: r => uptoBulkEntry x + uptoBulkEntries r
def uptoBulkEntry {H : Type} : Lit × DataW H → Nat
  | (.string bytes, d) => bytes.length + uptoBulk d + 1
  | (_, d) => uptoBulk d + 1
 end
def uptoSmall : (H : Type) → List (DataW H) → Bool := fun _ ds => decide (uptoBulkAll ds ≤ 1048576)
def OpenSpec.upto (s : _root_.Go.ChangeSpec) : _root_.Go.OpenSpec := { _root_.Go.OpenSpec.ofChange s with cond := some uptoSmall }

/-- 'marshalyardlaw12.TableAll', WHERE WHAT IT READS IS OF BULK AT MOST 1048576: true; the input reads as it did. -/
def tableAllUptoRow : OpenClaim := { program := "ytndmhfhihajbdaa", sum := "e5458de82a762e2fc3a8f1c26c33616213cfd421283cd78d8f59a01bacbc5410", func := "marshalyard/marshalyardlaw12.TableAll", spec := "tableAll", apart := false, narrowed := true }
def TableAllUptoSaid : Prop := tableAllUptoRow.holds Try.pinned (OpenSpec.upto tableAllSpec)

/-- 'marshalyardlaw12.TableFinds', WHERE WHAT IT READS IS OF BULK AT MOST 1048576: true; the input reads as it did. -/
def tableFindsUptoRow : OpenClaim := { program := "ytndmhfhihajbdaa", sum := "e5458de82a762e2fc3a8f1c26c33616213cfd421283cd78d8f59a01bacbc5410", func := "marshalyard/marshalyardlaw12.TableFinds", spec := "tableFinds", apart := false, narrowed := true }
def TableFindsUptoSaid : Prop := tableFindsUptoRow.holds Try.pinned (OpenSpec.upto tableFindsSpec)

/-- 'marshalyardlaw12.TableChecks', WHERE WHAT IT READS IS OF BULK AT MOST 1048576: true; the input reads as it did. -/
def tableChecksUptoRow : OpenClaim := { program := "ytndmhfhihajbdaa", sum := "e5458de82a762e2fc3a8f1c26c33616213cfd421283cd78d8f59a01bacbc5410", func := "marshalyard/marshalyardlaw12.TableChecks", spec := "tableChecks", apart := false, narrowed := true }
def TableChecksUptoSaid : Prop := tableChecksUptoRow.holds Try.pinned (OpenSpec.upto tableChecksSpec)

/-- 'marshalyardlaw12.TableKeys', WHERE WHAT IT READS IS OF BULK AT MOST 1048576: true; the input reads as it did. -/
def tableKeysUptoRow : OpenClaim := { program := "ytndmhfhihajbdaa", sum := "e5458de82a762e2fc3a8f1c26c33616213cfd421283cd78d8f59a01bacbc5410", func := "marshalyard/marshalyardlaw12.TableKeys", spec := "tableKeys", apart := false, narrowed := true }
def TableKeysUptoSaid : Prop := tableKeysUptoRow.holds Try.pinned (OpenSpec.upto tableKeysSpec)

/-- 'marshalyardlaw12.TableLetters', WHERE WHAT IT READS IS OF BULK AT MOST 1048576: true; the input reads as it did. -/
def tableLettersUptoRow : OpenClaim := { program := "ytndmhfhihajbdaa", sum := "e5458de82a762e2fc3a8f1c26c33616213cfd421283cd78d8f59a01bacbc5410", func := "marshalyard/marshalyardlaw12.TableLetters", spec := "tableLetters", apart := false, narrowed := true }
def TableLettersUptoSaid : Prop := tableLettersUptoRow.holds Try.pinned (OpenSpec.upto tableLettersSpec)

/-- 'marshalyardlaw12.TableStands', WHERE WHAT IT READS IS OF BULK AT MOST 1048576: true; the input reads as it did. -/
def tableStandsUptoRow : OpenClaim := { program := "ytndmhfhihajbdaa", sum := "e5458de82a762e2fc3a8f1c26c33616213cfd421283cd78d8f59a01bacbc5410", func := "marshalyard/marshalyardlaw12.TableStands", spec := "tableStands", apart := false, narrowed := true }
def TableStandsUptoSaid : Prop := tableStandsUptoRow.holds Try.pinned (OpenSpec.upto tableStandsSpec)

end Rows
end Go.Proofs.Ytndmhfhihajbdaa
