/- Burst. -/
import Derived.Test.YtcbncdigejjcpaaGreatDoorM02
namespace Go.Proofs.YtcbncdigejjcpaaGreatDoor.Crc

/-- the sum, bit by bit -/
def run (f : Nat → Bool) : Nat → BitVec 16
  | 0 => 0#16
  | j + 1 => bstep (run f j) (f j)

end Go.Proofs.YtcbncdigejjcpaaGreatDoor.Crc
