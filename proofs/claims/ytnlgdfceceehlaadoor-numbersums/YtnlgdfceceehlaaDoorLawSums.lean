/- The law of three numbers. -/
import Derived.Test.YtnlgdfceceehlaaDoorAlive
namespace Go.Proofs.YtnlgdfceceehlaaDoor
open Go.RowKit

theorem add_fits {a b : Int} (h : addE a b = 0) : addV a b = a + b ∧ -9223372036854775808 ≤ a + b ∧ a + b ≤ 9223372036854775807 := by
  unfold addE at h
  split at h
  · rename_i hf
    exact ⟨if_pos hf, hf.1, hf.2⟩
  · cases h
theorem addE_or (a b : Int) : addE a b = 0 ∨ addE a b = 51 := by
  unfold addE; split
  · exact .inl rfl
  · exact .inr rfl
theorem add_bounds (a b : Int) : -9223372036854775808 ≤ addV a b ∧ addV a b ≤ 9223372036854775807 := by
  unfold addV; split
  · rename_i h; exact h
  · decide
set_option maxHeartbeats 2000000 in
set_option maxRecDepth 100000 in
theorem sums_any (a b c : Int) (w : World) (hE : Env w) (a0 : -9223372036854775808 ≤ a) (a1 : a ≤ 9223372036854775807) (b0 : -9223372036854775808 ≤ b) (b1 : b ≤ 9223372036854775807) (c0 : -9223372036854775808 ≤ c) (c1 : c ≤ 9223372036854775807) :
    Calls Tryd.prog 8 #[.int .i64 a, .int .i64 b, .int .i64 c] w fun e w' => e = .returned (.bool true) ∧ Below w.heap.size w w' := by
  have HA := hid (fun w => add_any a b w a0 a1 b0 b1)
  have HB := hid (fun w => add_any b c w b0 b1 c0 c1)
  have HL := hid (alive_any w hE)
  have HP := hid (fun w => add_any (addV a b) c w (add_bounds _ _).1 (add_bounds _ _).2 c0 c1)
  have HQ := hid (fun w => add_any a (addV b c) w a0 a1 (add_bounds _ _).1 (add_bounds _ _).2)
  have H1 := addE_or a b
  have H2 := addE_or b c
  have H3 : addE a b = 0 → addE b c = 0 → addV a (addV b c) = addV (addV a b) c ∧ addE a (addV b c) = addE (addV a b) c := fun h1 h2 => by
    rw [(add_fits h1).1, (add_fits h2).1]
    unfold addV addE
    rw [Int.add_assoc]
    exact ⟨rfl, rfl⟩
  generalize addV a (addV b c) = Q at *
  generalize addE a (addV b c) = QE at *
  generalize addV (addV a b) c = P at *
  generalize addE (addV a b) c = PE at *
  generalize addV a b = X at *
  generalize addE a b = E at *
  generalize addV b c = Y at *
  generalize addE b c = F at *
  clear hE
  rcases H1 with rfl | rfl
  · rcases H2 with rfl | rfl
    · obtain ⟨rfl, rfl⟩ := H3 rfl rfl
      clear H3
      go_enter Tryd.func8, Tryd.ntmps8
      go_wp2_with fail
      refine (HA.out _).mono ?_; rintro e w1 ⟨rfl, rfl⟩
      go_wp2_with fail
      refine (HB.out _).mono ?_; rintro e w1 ⟨rfl, rfl⟩
      go_wp2_with fail
      refine (HP.out _).mono ?_; rintro e w1 ⟨rfl, rfl⟩
      go_wp2_with fail
      refine (HQ.out _).mono ?_; rintro e w1 ⟨rfl, rfl⟩
      go_wp2_with fail
      refine HL.out.mono ?_; rintro e w2 ⟨rfl, hb2⟩
      go_wp2_with fail
      go_ret
      exact ⟨rfl, hb2.out⟩
    · clear H3
      go_enter Tryd.func8, Tryd.ntmps8
      go_wp2_with fail
      refine (HA.out _).mono ?_; rintro e w1 ⟨rfl, rfl⟩
      go_wp2_with fail
      refine (HB.out _).mono ?_; rintro e w1 ⟨rfl, rfl⟩
      go_wp2_with fail
      refine HL.out.mono ?_; rintro e w2 ⟨rfl, hb2⟩
      go_wp2_with fail
      go_ret
      exact ⟨rfl, hb2.out⟩
  · clear H3 H2
    go_enter Tryd.func8, Tryd.ntmps8
    go_wp2_with fail
    refine (HA.out _).mono ?_; rintro e w1 ⟨rfl, rfl⟩
    go_wp2_with fail
    refine (HB.out _).mono ?_; rintro e w1 ⟨rfl, rfl⟩
    go_wp2_with fail
    refine HL.out.mono ?_; rintro e w2 ⟨rfl, hb2⟩
    go_wp2_with fail
    go_ret
    exact ⟨rfl, hb2.out⟩

end Go.Proofs.YtnlgdfceceehlaaDoor
