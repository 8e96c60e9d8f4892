/- A number's rest by 4, as the program takes it: n&3. -/
import Derived.Test.YtenncfohifekhaaDoorCore
namespace Go.Proofs.YtenncfohifekhaaDoor
open Go.RowKit

theorem and3 (n : Int) : IntKind.i64.wrap ((BitVec.ofInt 64 n &&& BitVec.ofInt 64 3).toNat : Int) = n % 4 := by
  have h : (BitVec.ofInt 64 n &&& BitVec.ofInt 64 3).toNat = (n % 4).toNat := by
    rw [BitVec.toNat_and, show (BitVec.ofInt 64 3).toNat = 2 ^ 2 - 1 from rfl, Nat.and_two_pow_sub_one_eq_mod, BitVec.toNat_ofInt]
    omega
  rw [h]
  have h0 : 0 ≤ n % 4 := by omega
  have h1 : n % 4 < 4 := by omega
  rcases (show n % 4 = 0 ∨ n % 4 = 1 ∨ n % 4 = 2 ∨ n % 4 = 3 by omega) with e | e | e | e <;> rw [e] <;> rfl
theorem and3_bits (n : Int) : bits .and .i64 n 3 = n % 4 := and3 n

end Go.Proofs.YtenncfohifekhaaDoor
