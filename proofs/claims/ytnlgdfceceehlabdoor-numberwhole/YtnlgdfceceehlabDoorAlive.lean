/- A number that is read: the law's alive. -/
import Derived.Test.YtnlgdfceceehlabDoorParse
import Derived.Test.YtnlgdfceceehlabDoorClamp
namespace Go.Proofs.YtnlgdfceceehlabDoor
open Go.RowKit

theorem five_formed : formed [45, 53] = true := by decide
theorem five_fits : fits [45, 53] = true := by decide
theorem five_tell : tellV [45, 53] = -5 ∧ tellE [45, 53] = 0 := by
  obtain ⟨h1, h2⟩ := tell_ok five_formed five_fits
  exact ⟨by rw [h1]; decide, h2⟩
theorem five_itoa : Lib.itoa (-5) = [45, 53] := by
  have := itoa_num five_formed
  rwa [show num [45, 53] = -5 by decide] at this
set_option maxHeartbeats 2000000 in
set_option maxRecDepth 100000 in
/-- alive -/
theorem alive_any (w : World) (hE : Env w) : Calls Tryd.prog 5 #[] w fun e w' => e = .returned (.bool true) ∧ Hid (Below w.heap.size w w') := by
  have HP := hid (parse_any [45, 53] w)
  rw [five_tell.1, five_tell.2] at HP
  have HC := hid (fun w => clamp_any (-2) 9 3 w (by decide) (by decide) (by decide) (by decide) (by decide) (by decide))
  rw [show clA (-2) 9 3 = 1 by decide, show clB (-2) 9 3 = 3 by decide] at HC
  have HI := hid (fun (W : World) (hb : Below w.heap.size w W) => print_any (-5) W (hE.below hb hE.room) (by decide) (by decide))
  rw [five_itoa] at HI
  clear hE
  go_enter Tryd.func5, Tryd.ntmps5
  go_wp2_with fail
  refine HP.out.mono ?_; rintro e w1 ⟨rfl, hb1⟩
  go_wp2_with fail
  refine (HC.out _).mono ?_; rintro e w2 ⟨rfl, rfl⟩
  go_wp2_with fail
  refine (HI.out _ hb1.out).mono ?_; rintro e w3 ⟨rfl, hb3⟩
  have HB := hid (hb1.out.trans (hb3.mono hb1.out.size))
  clear hb1 hb3
  go_wp2_with fail
  go_ret
  exact ⟨rfl, HB.out⟩

end Go.Proofs.YtnlgdfceceehlabDoor
