/- The walk of the law SlotTags. -/
import Derived.Test.YtjjecdeacjbhaaaDoorRefTag
namespace Go.Proofs.YtjjecdeacjbhaaaDoor
open Go.RowKit
open Slot

set_option maxHeartbeats 1000000 in
theorem slotTags_walk (l : List UInt8) (w : World) (hE : Env w) (hl : l.length ≤ 140737488351232) :
    Calls Tryd.prog 3 #[.string ⟨l.toArray⟩] w fun e w' => e = .returned (.bool true) ∧ Below w.heap.size w w' := by
  have HA := hid (alive_any w hE)
  have HT := hid fun w => tag_any l w (by omega)
  have HR := hid fun w => rTag_any l w (by omega)
  clear hE
  go_enter Tryd.func3, Tryd.ntmps3
  go_wp2_with fail
  refine HA.out.mono ?_; rintro e w1 ⟨rfl, hb1⟩
  have HB := hid hb1
  clear hb1
  go_wp2_with fail
  refine (HT.out _).mono ?_; rintro e w' ⟨rfl, n, rfl⟩
  go_wp2_with fail
  refine (HR.out _).mono ?_; rintro e w' ⟨rfl, rfl⟩
  go_wp2
  go_ret
  exact ⟨ret_bool (by simp), Below.drewN HB.out n⟩

end Go.Proofs.YtjjecdeacjbhaaaDoor
