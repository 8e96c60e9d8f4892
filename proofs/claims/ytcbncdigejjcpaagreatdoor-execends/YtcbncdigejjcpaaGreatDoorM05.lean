/- VModel. -/
import Derived.Test.YtcbncdigejjcpaaGreatDoorM01
import Derived.Test.YtcbncdigejjcpaaGreatDoorM02
namespace Go.Proofs.YtcbncdigejjcpaaGreatDoor

/-- the sum of bytes -/
def sumN (n : Nm) : Nat := (Crc.more 0#16 (n.map UInt8.toBitVec)).toNat
theorem sumN_lt (n : Nm) : sumN n < 65536 := (Crc.more 0#16 (n.map UInt8.toBitVec)).isLt
/-- a value -/
structure Vl where
  kind : Int
  text : Nm
  pairs : List (Nm × Nm)
  items : List Nm
  px : Int
  py : Int
deriving DecidableEq
def zeroV : Vl := ⟨0, [], [], [], 0, 0⟩
/-- not too many, nor none, and none too long -/
def Fits (l : List Nm) : Prop := (∀ x ∈ l, x.length ≤ 1024) ∧ 1 ≤ l.length ∧ l.length ≤ 256
def rtP (x y : Int) : Prop := -1048576 ≤ x ∧ x ≤ 1048576 ∧ -1048576 ≤ y ∧ y ≤ 1048576
/-- which values may be -/
structure RtV (m : Vl) : Prop where
  text : m.kind ≠ 1 → m.text = []
  pairs : m.kind ≠ 2 → m.pairs = []
  items : m.kind ≠ 3 → m.kind ≠ 4 → m.items = []
  point : m.kind ≠ 5 → m.px = 0 ∧ m.py = 0
  k : 1 ≤ m.kind ∧ m.kind ≤ 5
  k1 : m.kind = 1 → m.text.length ≤ 4096
  k2 : m.kind = 2 → Fits (m.pairs.map (·.1)) ∧ Ris (m.pairs.map (·.1)) ∧ Fits (m.pairs.map (·.2))
  k3 : m.kind = 3 → Fits m.items
  k4 : m.kind = 4 → Fits m.items ∧ Ris m.items
  k5 : m.kind = 5 → rtP m.px m.py
open Classical in
noncomputable def rightB (m : Vl) : Bool := decide (RtV m)
open Classical in
theorem rightB_iff {m : Vl} : rightB m = true ↔ RtV m := by unfold rightB; exact decide_eq_true_iff
open Classical in
theorem rightB_not {m : Vl} : rightB m = false ↔ ¬ RtV m := by unfold rightB; exact decide_eq_false_iff_not
/-- a number in two bytes; a text; a point's part -/
def two (n : Nat) : Nm := [UInt8.ofNat (n / 256), UInt8.ofNat (n % 256)]
def tx (s : Nm) : Nm := two s.length ++ s
def part (n : Int) : Nm := two ((n % 4294967296).toNat / 65536) ++ two ((n % 4294967296).toNat % 65536)
def flat (l : List (Nm × Nm)) : List Nm := l.flatMap fun p => [p.1, p.2]
def inner (m : Vl) : Nm :=
  if m.kind = 1 then tx m.text else if m.kind = 2 then two m.pairs.length ++ (flat m.pairs).flatMap tx else if m.kind = 5 then part m.px ++ part m.py else two m.items.length ++ m.items.flatMap tx
def bodyV (m : Vl) : Nm := UInt8.ofNat m.kind.toNat :: inner m
def dumpV (m : Vl) : Nm := bodyV m ++ two (sumN (bodyV m))
theorem two_len (n : Nat) : (two n).length = 2 := rfl
theorem flat_len (l : List (Nm × Nm)) : (flat l).length = 2 * l.length := by
  induction l with
  | nil => rfl
  | cons p l ih => show ([p.1, p.2] ++ flat l).length = _; simp [ih]; omega
end Go.Proofs.YtcbncdigejjcpaaGreatDoor
