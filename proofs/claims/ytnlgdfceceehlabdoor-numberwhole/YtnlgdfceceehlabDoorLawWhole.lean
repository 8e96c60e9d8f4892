/- The law of whole rows. -/
import Derived.Test.YtnlgdfceceehlabDoorAlive
namespace Go.Proofs.YtnlgdfceceehlabDoor
open Go.RowKit

theorem cl_all {m : Int} (h : 1 ≤ m) : clA 0 (-1) m = 0 ∧ clB 0 (-1) m = m := by
  have e1 : fstP 0 m = 0 := by simp [fstP, plc]
  have e2 : lstP (-1) m = m - 1 := by
    have : plc (-1) m = m - 1 := by unfold plc; rw [if_pos (by decide)]; omega
    unfold lstP; rw [this]; simp
  unfold clA clB
  rw [e1, e2, if_neg (by omega), if_neg (by omega), if_neg (by omega), if_neg (by omega)]
  exact ⟨rfl, by omega⟩
theorem cl_ends {m : Int} (h : 1 ≤ m) : clA (-m) (m - 1) m = 0 ∧ clB (-m) (m - 1) m = m := by
  have e1 : fstP (-m) m = 0 := by
    have : plc (-m) m = 0 := by unfold plc; rw [if_pos (by omega)]; omega
    unfold fstP; rw [this]; rfl
  have e2 : lstP (m - 1) m = m - 1 := by
    have : plc (m - 1) m = m - 1 := by unfold plc; rw [if_neg (by omega)]
    unfold lstP; rw [this]; simp
  unfold clA clB
  rw [e1, e2, if_neg (by omega), if_neg (by omega), if_neg (by omega), if_neg (by omega)]
  exact ⟨rfl, by omega⟩
set_option maxHeartbeats 2000000 in
set_option maxRecDepth 100000 in
theorem whole_law (m : Int) (w : World) (hE : Env w) (m0 : -9223372036854775808 ≤ m) (m1 : m ≤ 9223372036854775807) :
    Calls Tryd.prog 3 #[.int .i64 m] w fun e w' => e = .returned (.bool true) ∧ Below w.heap.size w w' := by
  have HC := hid (fun w => clamp_any 0 (-1) m w (by decide) (by decide) (by decide) (by decide) m0 m1)
  have HL := hid (alive_any w hE)
  clear hE
  by_cases hm : m < 1
  · rw [show clA 0 (-1) m = 0 from if_pos hm, show clB 0 (-1) m = 0 from if_pos hm] at HC
    go_enter Tryd.func3, Tryd.ntmps3
    go_wp2_with fail
    refine (HC.out _).mono ?_; rintro e w1 ⟨rfl, rfl⟩
    go_wp2_with fail
    refine HL.out.mono ?_; rintro e w2 ⟨rfl, hb2⟩
    go_wp2_with fail
    go_ret
    exact ⟨rfl, hb2.out⟩
  · have h1 : 1 ≤ m := by omega
    have HD := hid (fun w => clamp_any (-m) (m - 1) m w (by omega) (by omega) (by omega) (by omega) m0 m1)
    rw [(cl_all h1).1, (cl_all h1).2] at HC
    rw [(cl_ends h1).1, (cl_ends h1).2] at HD
    go_enter Tryd.func3, Tryd.ntmps3
    go_wp2_with fail
    refine (HC.out _).mono ?_; rintro e w1 ⟨rfl, rfl⟩
    go_wp2_with fail
    refine (HD.out _).mono ?_; rintro e w1 ⟨rfl, rfl⟩
    go_wp2_with fail
    refine HL.out.mono ?_; rintro e w2 ⟨rfl, hb2⟩
    go_wp2_with fail
    go_ret
    exact ⟨rfl, hb2.out⟩

end Go.Proofs.YtnlgdfceceehlabDoor
