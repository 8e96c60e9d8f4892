/- Points in blocks, carried from world to world; what follows of sums, products and turns. -/
import Derived.Test.YtenncfohifekhabDoorMeth
namespace Go.Proofs.YtenncfohifekhabDoor
open Go.RowKit

/-- a point in a block -/
def Bk (w : World) (b : Nat) (x y : Int) : Prop := w.heap[b]? = some (.cells #[.int .i64 x, .int .i64 y] 23 (0, 0))
theorem Bk.below {w w' : World} {b : Nat} {x y : Int} (h : Bk w b x y) (k : Below w.heap.size w w') : Bk w' b x y := (k.block b (Array.getElem?_eq_some_iff.1 h).1).trans h
theorem may_ok {x y : Int} (h : rt x y = true) : may x y = ⟨x, y, 0⟩ := if_pos h
theorem rt0 : rt 0 0 = true := rfl
theorem rest_add {x y : Int} (h : rt x y = true) : addP x y (-x) (-y) = ⟨0, 0, 0⟩ := by
  obtain ⟨x0, x1, y0, y1⟩ := rt_iff.1 h
  unfold addP
  rw [h, show rt (-x) (-y) = true from rt_iff.2 ⟨by omega, by omega, by omega, by omega⟩, show x + -x = 0 by omega, show y + -y = 0 by omega]
  rfl
theorem zero_add_p {x y : Int} (h : rt x y = true) : addP x y 0 0 = ⟨x, y, 0⟩ := by
  unfold addP
  rw [h, rt0, Int.add_zero, Int.add_zero, Bool.and_self, if_pos rfl, may_ok h]
theorem one_mul_p {x y : Int} (h : rt x y = true) : mulP x y 1 0 = ⟨x, y, 0⟩ := by
  unfold mulP
  rw [h, show rt 1 0 = true from rfl, Bool.and_self, if_pos rfl, show x * 1 - y * 0 = x by omega, show x * 0 + y * 1 = y by omega, may_ok h]
theorem half_mul {x y : Int} (h : rt x y = true) : mulP x y (-1) 0 = ⟨-x, -y, 0⟩ := by
  obtain ⟨x0, x1, y0, y1⟩ := rt_iff.1 h
  unfold mulP
  rw [h, show rt (-1) 0 = true from rfl, Bool.and_self, if_pos rfl, show x * -1 - y * 0 = -x by omega, show x * 0 + y * -1 = -y by omega, may_ok (rt_iff.2 ⟨by omega, by omega, by omega, by omega⟩)]
theorem quarter_mul {x y : Int} (h : rt x y = true) : mulP x y 0 1 = ⟨-y, x, 0⟩ := by
  obtain ⟨x0, x1, y0, y1⟩ := rt_iff.1 h
  unfold mulP
  rw [h, show rt 0 1 = true from rfl, Bool.and_self, if_pos rfl, show x * 0 - y * 1 = -y by omega, show x * 1 + y * 0 = x by omega, may_ok (rt_iff.2 ⟨by omega, by omega, by omega, by omega⟩)]
theorem turn_two {x y : Int} (h : rt x y = true) : turnP x y 2 = (-x, -y) := by
  unfold turnP
  rw [if_pos h]
  rfl
theorem turn_one {x y : Int} (h : rt x y = true) : turnP x y 1 = (-y, x) := by
  unfold turnP
  rw [if_pos h]
  rfl
theorem turn_four {x y : Int} (h : rt x y = true) : turnP x y 4 = (x, y) := by
  unfold turnP
  rw [if_pos h]
  rfl
theorem turnK_add (p : Int × Int) : ∀ i j, turnK (i + j) p = turnK j (turnK i p)
  | i, 0 => rfl
  | i, j + 1 => by show turn1 (turnK (i + j) p) = turn1 (turnK j (turnK i p)); rw [turnK_add p i j]
theorem turnK_four (p : Int × Int) : turnK 4 p = p := by
  show (- - p.1, - - p.2) = p
  rw [Int.neg_neg, Int.neg_neg]
theorem turnK_mod (p : Int × Int) : ∀ i, turnK (i % 4) p = turnK i p := by
  intro i
  induction i using Nat.strongRecOn with
  | ind i ih =>
    by_cases h : i < 4
    · rw [Nat.mod_eq_of_lt h]
    · obtain ⟨j, rfl⟩ : ∃ j, i = 4 + j := ⟨i - 4, by omega⟩
      rw [turnK_add, turnK_four, ← ih j (by omega), show (4 + j) % 4 = j % 4 by omega]
theorem rt_turn1 {p : Int × Int} (h : rt p.1 p.2 = true) : rt (turn1 p).1 (turn1 p).2 = true := by
  obtain ⟨a0, a1, b0, b1⟩ := rt_iff.1 h
  exact rt_iff.2 ⟨by show -1048576 ≤ -p.2; omega, by show -p.2 ≤ 1048576; omega, a0, a1⟩
theorem rt_turnk {p : Int × Int} (h : rt p.1 p.2 = true) : ∀ k, rt (turnK k p).1 (turnK k p).2 = true
  | 0 => h
  | k + 1 => rt_turn1 (rt_turnk h k)
theorem turn_both {x y : Int} (m n : Int) (h : rt x y = true) : turnP (turnP x y m).1 (turnP x y m).2 n = turnP x y (m + n) := by
  have e1 : turnP x y m = turnK (m % 4).toNat (x, y) := if_pos h
  have e2 : turnP x y (m + n) = turnK ((m + n) % 4).toNat (x, y) := if_pos h
  have h1 := rt_turnk (p := (x, y)) h (m % 4).toNat
  rw [e2, e1]
  unfold turnP
  rw [if_pos h1]
  show turnK (n % 4).toNat (turnK (m % 4).toNat (x, y)) = _
  rw [← turnK_add, ← turnK_mod]
  congr 1
  omega

end Go.Proofs.YtenncfohifekhabDoor
