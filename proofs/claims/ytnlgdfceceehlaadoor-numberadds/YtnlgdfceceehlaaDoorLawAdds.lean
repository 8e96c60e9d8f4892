/- The law of sums. -/
import Derived.Test.YtnlgdfceceehlaaDoorAlive
namespace Go.Proofs.YtnlgdfceceehlaaDoor
open Go.RowKit

theorem addV_comm (a b : Int) : addV b a = addV a b := by unfold addV; rw [Int.add_comm]
theorem addE_comm (a b : Int) : addE b a = addE a b := by unfold addE; rw [Int.add_comm]
set_option maxHeartbeats 2000000 in
set_option maxRecDepth 100000 in
theorem adds_any (a b : Int) (w : World) (hE : Env w) (a0 : -9223372036854775808 ≤ a) (a1 : a ≤ 9223372036854775807) (b0 : -9223372036854775808 ≤ b) (b1 : b ≤ 9223372036854775807) :
    Calls Tryd.prog 6 #[.int .i64 a, .int .i64 b] w fun e w' => e = .returned (.bool true) ∧ Below w.heap.size w w' := by
  have HA := hid (fun w => add_any a b w a0 a1 b0 b1)
  have HR := hid (fun w => radd_any a b w a0 a1 b0 b1)
  have HB := hid (fun w => add_any b a w b0 b1 a0 a1)
  have HL := hid (alive_any w hE)
  rw [addV_comm, addE_comm] at HB
  generalize addV a b = V at *
  generalize addE a b = E at *
  clear hE
  go_enter Tryd.func6, Tryd.ntmps6
  go_wp2_with fail
  refine (HA.out _).mono ?_; rintro e w1 ⟨rfl, rfl⟩
  go_wp2_with fail
  refine (HR.out _).mono ?_; rintro e w1 ⟨rfl, rfl⟩
  go_wp2_with fail
  refine (HB.out _).mono ?_; rintro e w1 ⟨rfl, rfl⟩
  go_wp2_with fail
  refine HL.out.mono ?_; rintro e w2 ⟨rfl, hb2⟩
  go_wp2_with fail
  go_ret
  exact ⟨rfl, hb2.out⟩

end Go.Proofs.YtnlgdfceceehlaaDoor
