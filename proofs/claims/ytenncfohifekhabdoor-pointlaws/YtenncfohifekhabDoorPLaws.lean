/- What follows of sums and products: plain mathematics. -/
import Derived.Test.YtenncfohifekhabDoorPModel
namespace Go.Proofs.YtenncfohifekhabDoor

theorem mulP_comm (a b c d : Int) : mulP a b c d = mulP c d a b := by
  unfold mulP
  rw [Bool.and_comm (rt a b), Int.mul_comm a c, Int.mul_comm b d, Int.mul_comm a d, Int.mul_comm b c, Int.add_comm (d * a)]
theorem addP_comm (a b c d : Int) : addP a b c d = addP c d a b := by
  unfold addP
  rw [Bool.and_comm (rt a b), Int.add_comm a c, Int.add_comm b d]
theorem may_zero {x y : Int} (h : (may x y).e = 0) : rt x y = true ∧ may x y = ⟨x, y, 0⟩ := by
  unfold may at h ⊢
  by_cases k : rt x y = true
  · rw [if_pos k]; exact ⟨k, rfl⟩
  · rw [if_neg k] at h; simp at h
theorem mulP_zero {a b c d : Int} (h : (mulP a b c d).e = 0) : rt a b = true ∧ rt c d = true ∧ rt (a * c - b * d) (a * d + b * c) = true ∧ mulP a b c d = ⟨a * c - b * d, a * d + b * c, 0⟩ := by
  unfold mulP at h ⊢
  by_cases k : (rt a b && rt c d) = true
  · rw [if_pos k] at h ⊢
    obtain ⟨h1, h2⟩ := may_zero h
    rw [Bool.and_eq_true] at k
    exact ⟨k.1, k.2, h1, h2⟩
  · rw [if_neg k] at h; simp at h
theorem addP_zero {a b c d : Int} (h : (addP a b c d).e = 0) : rt a b = true ∧ rt c d = true ∧ addP a b c d = ⟨a + c, b + d, 0⟩ := by
  unfold addP at h ⊢
  by_cases k : (rt a b && rt c d) = true
  · rw [if_pos k] at h ⊢
    obtain ⟨h1, h2⟩ := may_zero h
    rw [Bool.and_eq_true] at k
    exact ⟨k.1, k.2, h2⟩
  · rw [if_neg k] at h; simp at h
/-- the square of a product -/
theorem norm_times {a b c d : Int} (h : (mulP a b c d).e = 0) : normP (mulP a b c d).x (mulP a b c d).y = normP a b * normP c d := by
  obtain ⟨h1, h2, h3, h4⟩ := mulP_zero h
  rw [h4]
  unfold normP
  rw [if_pos h1, if_pos h2, if_pos h3]
  exact norm_mul a b c d
/-- a product of a sum -/
theorem times_sum {a b c d e f : Int} (h1 : (mulP a b c d).e = 0) (h2 : (addP c d e f).e = 0) (h3 : (mulP a b e f).e = 0) (h4 : (addP (mulP a b c d).x (mulP a b c d).y (mulP a b e f).x (mulP a b e f).y).e = 0) (h5 : (mulP a b (addP c d e f).x (addP c d e f).y).e = 0) :
    mulP a b (addP c d e f).x (addP c d e f).y = addP (mulP a b c d).x (mulP a b c d).y (mulP a b e f).x (mulP a b e f).y := by
  obtain ⟨-, -, -, e5⟩ := mulP_zero h5
  obtain ⟨-, -, e4⟩ := addP_zero h4
  rw [e4, e5]
  obtain ⟨-, -, -, e1⟩ := mulP_zero h1
  obtain ⟨-, -, e2⟩ := addP_zero h2
  obtain ⟨-, -, -, e3⟩ := mulP_zero h3
  rw [e1, e2, e3]
  simp only [Tel.mk.injEq, and_true]
  constructor
  · rw [Int.mul_add, Int.mul_add]; omega
  · rw [Int.mul_add, Int.mul_add]; omega

end Go.Proofs.YtenncfohifekhabDoor
