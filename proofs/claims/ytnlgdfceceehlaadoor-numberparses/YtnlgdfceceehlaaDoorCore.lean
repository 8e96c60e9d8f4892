/- Sums and stretches: the program's and the document's. -/
import Derived.Test.YtnlgdfceceehlaaDoorProg
import Derived.WalkKit
import Derived.Below
import Derived.RowKit
namespace Go.Proofs.YtnlgdfceceehlaaDoor
open Go.RowKit

theorem hid {p : Prop} (h : p) : Hid p := h
theorem below_alloc (w : World) (o : Obj) : Below w.heap.size w (w.alloc o) := (Below.refl _ _).alloc (Nat.le_refl _) o
/-- the sum of two numbers and its error -/
def addV (a b : Int) : Int := if -9223372036854775808 ≤ a + b ∧ a + b ≤ 9223372036854775807 then a + b else 0
def addE (a b : Int) : Int := if -9223372036854775808 ≤ a + b ∧ a + b ≤ 9223372036854775807 then 0 else 51
set_option maxHeartbeats 1000000 in
set_option maxRecDepth 100000 in
/-- Add -/
theorem add_any (a b : Int) (w : World) (a0 : -9223372036854775808 ≤ a) (a1 : a ≤ 9223372036854775807) (b0 : -9223372036854775808 ≤ b) (b1 : b ≤ 9223372036854775807) :
    Calls Tryd.prog 14 #[.int .i64 a, .int .i64 b] w fun e w' => e = .returned (.tuple #[.int .i64 (addV a b), .int .i64 (addE a b)]) ∧ w' = w := by
  by_cases h1 : 9223372036854775807 < a + b
  · have e1 : addV a b = 0 := if_neg (by omega)
    have e2 : addE a b = 51 := if_neg (by omega)
    rw [e1, e2]
    have hw : IntKind.i64.wrap (a + b) = a + b - 18446744073709551616 := by rw [IntKind.wrap_i64]; omega
    obtain ⟨S, hS⟩ : ∃ S, S = a + b - 18446744073709551616 := ⟨_, rfl⟩
    rw [← hS] at hw
    have c1 : 0 < b := by omega
    have c2 : S < a := by omega
    clear hS h1 e1 e2
    go_enter Tryd.func14, Tryd.ntmps14
    go_wp2
    go_ret2
    exact ⟨rfl, rfl⟩
  · by_cases h2 : a + b < -9223372036854775808
    · have e1 : addV a b = 0 := if_neg (by omega)
      have e2 : addE a b = 51 := if_neg (by omega)
      rw [e1, e2]
      have hw : IntKind.i64.wrap (a + b) = a + b + 18446744073709551616 := by rw [IntKind.wrap_i64]; omega
      obtain ⟨S, hS⟩ : ∃ S, S = a + b + 18446744073709551616 := ⟨_, rfl⟩
      rw [← hS] at hw
      have c1 : b < 0 := by omega
      have c2 : a < S := by omega
      have c3 : ¬ 0 < b := by omega
      clear hS h1 h2 e1 e2
      go_enter Tryd.func14, Tryd.ntmps14
      go_wp2
      go_ret2
      exact ⟨rfl, rfl⟩
    · have e1 : addV a b = a + b := if_pos (by omega)
      have e2 : addE a b = 0 := if_pos (by omega)
      rw [e1, e2]
      have s0 : -9223372036854775808 ≤ a + b := by omega
      have s1 : a + b ≤ 9223372036854775807 := by omega
      rcases (show (0 < b ∧ ¬ a + b < a ∧ ¬ b < 0) ∨ (¬ 0 < b ∧ b < 0 ∧ ¬ a < a + b) ∨ (¬ 0 < b ∧ ¬ b < 0) by omega) with ⟨c1, c2, c3⟩ | ⟨c1, c2, c3⟩ | ⟨c1, c2⟩
      all_goals clear h1 h2 e1 e2
      all_goals go_enter Tryd.func14, Tryd.ntmps14
      all_goals go_wp2
      all_goals go_ret2
      all_goals exact ⟨rfl, rfl⟩
set_option maxHeartbeats 1000000 in
set_option maxRecDepth 100000 in
/-- ref Add -/
theorem radd_any (a b : Int) (w : World) (a0 : -9223372036854775808 ≤ a) (a1 : a ≤ 9223372036854775807) (b0 : -9223372036854775808 ≤ b) (b1 : b ≤ 9223372036854775807) :
    Calls Tryd.prog 15 #[.int .i64 a, .int .i64 b] w fun e w' => e = .returned (.tuple #[.int .i64 (addV a b), .int .i64 (addE a b)]) ∧ w' = w := by
  by_cases hf : -9223372036854775808 ≤ a + b ∧ a + b ≤ 9223372036854775807
  · have e1 : addV a b = a + b := if_pos hf
    have e2 : addE a b = 0 := if_pos hf
    rw [e1, e2]
    obtain ⟨h0, h1⟩ := hf
    rcases (show (0 ≤ b ∧ ¬ 9223372036854775807 - b < a ∧ ¬ b < 0) ∨ (¬ 0 ≤ b ∧ b < 0 ∧ ¬ a < -9223372036854775808 - b) by omega) with ⟨c1, c2, c3⟩ | ⟨c1, c2, c3⟩
    all_goals clear e1 e2
    all_goals go_enter Tryd.func15, Tryd.ntmps15
    all_goals go_wp2
    all_goals go_ret2
    all_goals exact ⟨rfl, rfl⟩
  · have e1 : addV a b = 0 := if_neg hf
    have e2 : addE a b = 51 := if_neg hf
    rw [e1, e2]
    rcases (show (0 ≤ b ∧ 9223372036854775807 - b < a) ∨ (¬ 0 ≤ b ∧ b < 0 ∧ a < -9223372036854775808 - b) by omega) with ⟨c1, c2⟩ | ⟨c1, c2, c3⟩
    all_goals clear e1 e2 hf
    all_goals go_enter Tryd.func15, Tryd.ntmps15
    all_goals go_wp2
    all_goals go_ret2
    all_goals exact ⟨rfl, rfl⟩

end Go.Proofs.YtnlgdfceceehlaaDoor
