/- The walk of the law SlotTwice. -/
import Derived.Test.YtjjecdeacjbhaabDoorAlive
namespace Go.Proofs.YtjjecdeacjbhaabDoor
open Go.RowKit
open Slot

theorem slotOf_tag (l : List UInt8) : slotOf (tag l) = slotOf l := by unfold slotOf; rw [tag_tag]
set_option maxHeartbeats 1000000 in
theorem slotTwice_walk (l : List UInt8) (w : World) (hE : Env w) (hl : l.length ≤ 140737488351232) :
    Calls Tryd.prog 6 #[.string ⟨l.toArray⟩] w fun e w' => e = .returned (.bool true) ∧ Below w.heap.size w w' := by
  have HA := hid fun n => alive_any (w.drewN n) (hE.drewN n)
  have htl := tag_length l
  have HT := hid fun w => tag_any l w (by omega)
  have HTT := hid fun w => tag_any (tag l) w (by omega)
  rw [tag_tag] at HTT
  have HO := hid fun w (h : Env w) => of_any l w h.tab h.room (by omega)
  have HOT := hid fun w (h : Env w) => of_any (tag l) w h.tab h.room (by omega)
  rw [slotOf_tag] at HOT
  have HE := hid hE
  generalize tag l = T at HT HTT HOT htl
  generalize slotOf l = N at HO HOT
  clear hE
  go_enter Tryd.func6, Tryd.ntmps6
  go_wp2_with fail
  refine (HT.out _).mono ?_; rintro e w' ⟨rfl, n, rfl⟩
  go_wp2_with fail
  refine (HA.out n).mono ?_; rintro e w1 ⟨rfl, hb1⟩
  have HB1 : Hid (Below w.heap.size w w1) := (Below.drewN (Below.refl _ w) n).trans hb1
  clear hb1
  go_wp2_with fail
  refine (HTT.out _).mono ?_; rintro e w' ⟨rfl, n2, rfl⟩
  have HE2 := hid ((HE.out.below HB1.out HE.out.room).drewN n2)
  have HB2 := hid (Below.drewN HB1.out n2)
  go_wp2_with fail
  refine (HOT.out _ HE2.out).mono ?_; rintro e w3 ⟨rfl, hb3⟩
  have HE3 := hid (HE2.out.below hb3 HE2.out.room)
  have HB3 := hid (HB2.out.trans (hb3.mono HB2.out.size))
  clear hb3
  go_wp2_with fail
  refine (HO.out _ HE3.out).mono ?_; rintro e w4 ⟨rfl, hb4⟩
  have HB4 := hid (HB3.out.trans (hb4.mono HB3.out.size))
  clear hb4
  go_wp2
  go_ret
  exact ⟨ret_bool (by simp), HB4.out⟩

end Go.Proofs.YtjjecdeacjbhaabDoor
