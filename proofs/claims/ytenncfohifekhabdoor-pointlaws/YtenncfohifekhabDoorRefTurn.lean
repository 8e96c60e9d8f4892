/- Turns of points that may be. -/
import Derived.Test.YtenncfohifekhabDoorPtsB
namespace Go.Proofs.YtenncfohifekhabDoor

theorem rt_turn {p : Int × Int} (h : rt p.1 p.2 = true) : rt (turn1 p).1 (turn1 p).2 = true := by
  obtain ⟨a0, a1, b0, b1⟩ := rt_iff.1 h
  exact rt_iff.2 ⟨by show -1048576 ≤ -p.2; omega, by show -p.2 ≤ 1048576; omega, a0, a1⟩
theorem rt_turnK {p : Int × Int} (h : rt p.1 p.2 = true) : ∀ k, rt (turnK k p).1 (turnK k p).2 = true
  | 0 => h
  | k + 1 => rt_turn (rt_turnK h k)

end Go.Proofs.YtenncfohifekhabDoor
