/- LoadP, RdrP. -/
import Derived.Test.YtcbncdigejjcpaaGreatDoorM05
import Derived.Test.YtcbncdigejjcpaaGreatDoorM06
namespace Go.Proofs.YtcbncdigejjcpaaGreatDoor

theorem dump_len (m : Vl) : (dumpV m).length = (bodyV m).length + 2 := by simp [dumpV, two_len]
/-- is the sum right? -/
def sumOk (s : Nm) : Prop := s.drop (s.length - 2) = two (sumN (s.take (s.length - 2)))
open Classical in
/-- what Load tells -/
noncomputable def loadV (s : Nm) : Vl × Int :=
  if s.length < 3 then (zeroV, 100) else if ¬ sumOk s then (zeroV, 101) else if h : ∃ m, RtV m ∧ dumpV m = s then (Classical.choose h, 0) else (zeroV, 100)
end Go.Proofs.YtcbncdigejjcpaaGreatDoor

namespace Go.Proofs.YtcbncdigejjcpaaGreatDoor

/-- the number of bytes, the highest first -/
def numN (l : Nm) : Nat := l.foldl (fun n b => n * 256 + b.toNat) 0
def rows {α : Type} (f : Nm → α × Nm) : Nat → Nm → List α × Nm
  | 0, r => ([], r)
  | n + 1, r => ((rows f n r).1 ++ [(f (rows f n r).2).1], (f (rows f n r).2).2)
def many (r : Nm) : Nat := min (numN (r.take 2)) 256
end Go.Proofs.YtcbncdigejjcpaaGreatDoor
