/- The law of stretches. -/
import Derived.Test.YtnlgdfceceehlaaDoorAlive
import Derived.Test.YtnlgdfceceehlaaDoorRefClamp
namespace Go.Proofs.YtnlgdfceceehlaaDoor
open Go.RowKit

theorem cl_bounds (f t m : Int) : 0 ≤ clA f t m ∧ clA f t m ≤ clB f t m ∧ (m < 0 → clB f t m = 0) ∧ (0 ≤ m → clB f t m ≤ m) := by
  have hf : 0 ≤ fstP f m := by unfold fstP; split <;> omega
  have ht : lstP t m ≤ m - 1 := by unfold lstP; split <;> omega
  by_cases hm : m < 1
  · rw [show clA f t m = 0 from if_pos hm, show clB f t m = 0 from if_pos hm]
    omega
  · rw [show clA f t m = if lstP t m < fstP f m then 0 else fstP f m from if_neg hm, show clB f t m = if lstP t m < fstP f m then 0 else lstP t m + 1 from if_neg hm]
    by_cases hc : lstP t m < fstP f m
    · rw [if_pos hc, if_pos hc]; omega
    · rw [if_neg hc, if_neg hc]; omega
set_option maxHeartbeats 2000000 in
set_option maxRecDepth 100000 in
theorem clamps_any (f t m : Int) (w : World) (hE : Env w) (f0 : -9223372036854775808 ≤ f) (f1 : f ≤ 9223372036854775807) (t0 : -9223372036854775808 ≤ t) (t1 : t ≤ 9223372036854775807) (m0 : -9223372036854775808 ≤ m) (m1 : m ≤ 9223372036854775807) :
    Calls Tryd.prog 7 #[.int .i64 f, .int .i64 t, .int .i64 m] w fun e w' => e = .returned (.bool true) ∧ Below w.heap.size w w' := by
  have HC := hid (fun w => clamp_any f t m w f0 f1 t0 t1 m0 m1)
  have HR := hid (fun w => rclamp_any f t m w f0 f1 t0 t1 m0 m1)
  have HL := hid (alive_any w hE)
  obtain ⟨h1, h2, h3, h4⟩ := cl_bounds f t m
  generalize clA f t m = A at *
  generalize clB f t m = B at *
  have k1 : ¬ A < 0 := by omega
  have k2 : ¬ B < A := by omega
  have k3 : B ≤ 9223372036854775807 := by omega
  clear hE
  by_cases hm : m < 0
  · obtain rfl := h3 hm
    obtain rfl : A = 0 := by omega
    clear h1 h2 h3 h4 k1 k2 k3
    go_enter Tryd.func7, Tryd.ntmps7
    go_wp2_with fail
    refine (HC.out _).mono ?_; rintro e w1 ⟨rfl, rfl⟩
    go_wp2_with fail
    refine (HR.out _).mono ?_; rintro e w1 ⟨rfl, rfl⟩
    go_wp2_with fail
    refine HL.out.mono ?_; rintro e w2 ⟨rfl, hb2⟩
    go_wp2_with fail
    go_ret
    exact ⟨rfl, hb2.out⟩
  · have h5 := h4 (by omega)
    have k4 : ¬ m < B := by omega
    clear h3 h4
    by_cases hb : 3000 < m
    · go_enter Tryd.func7, Tryd.ntmps7
      go_wp2_with fail
      refine (HC.out _).mono ?_; rintro e w1 ⟨rfl, rfl⟩
      go_wp2_with fail
      refine HL.out.mono ?_; rintro e w2 ⟨rfl, hb2⟩
      go_wp2_with fail
      go_ret
      exact ⟨rfl, hb2.out⟩
    · go_enter Tryd.func7, Tryd.ntmps7
      go_wp2_with fail
      refine (HC.out _).mono ?_; rintro e w1 ⟨rfl, rfl⟩
      go_wp2_with fail
      refine (HR.out _).mono ?_; rintro e w1 ⟨rfl, rfl⟩
      go_wp2_with fail
      refine HL.out.mono ?_; rintro e w2 ⟨rfl, hb2⟩
      go_wp2_with fail
      go_ret
      exact ⟨rfl, hb2.out⟩

end Go.Proofs.YtnlgdfceceehlaaDoor
