/- A whole float's contrary. -/
import Derived.Test.YtenncfohifekhaaDoorWhole
namespace Go.Proofs.YtenncfohifekhaaDoor
open Ieee

theorem read_neg (b : Nat) : double.read (b ^^^ 9223372036854775808) = (double.read b).opposite := by
  obtain ⟨c1, c2, c3, c4, c5⟩ := double_nums
  have e1 : (b ^^^ 9223372036854775808) % 9223372036854775808 = b % 9223372036854775808 := by
    have := Nat.xor_mod_two_pow (a := b) (b := 2 ^ 63) (n := 63)
    rw [Nat.mod_self, Nat.xor_zero] at this
    exact this
  have e2 : ((b ^^^ 9223372036854775808) / 9223372036854775808 % 2 == 1) = !(b / 9223372036854775808 % 2 == 1) := by
    have h1 : ∀ x : Nat, (x / 9223372036854775808 % 2 == 1) = x.testBit 63 := fun x => by
      rw [Nat.testBit_eq_decide_div_mod_eq]
      rfl
    rw [h1, h1, Nat.testBit_xor, show Nat.testBit 9223372036854775808 63 = true from Nat.testBit_two_pow_self (n := 63)]
    simp
  unfold Format.read
  simp only [c1, c2, c3, c4, e1, e2]
  repeat' split
  all_goals rfl
theorem Is.neg {b : Nat} {n : Int} (h : Is b n) : Is (Go.Op.negFloat .f64 b) (-n) := by
  show Val (double.read (b ^^^ 9223372036854775808)) (-n)
  rw [read_neg]
  exact Val.opposite h

end Go.Proofs.YtenncfohifekhaaDoor
