/- How many slots a set has, and the list of them: plain mathematics. -/
import Derived.Test.YtgpdbcigogkkbaaDoorSets
namespace Go.Proofs.YtgpdbcigogkkbaaDoor
namespace Slot

/-- how many of the first n are there -/
def count (f : Nat → Bool) : Nat → Nat
  | 0 => 0
  | n + 1 => count f n + if f n then 1 else 0
theorem count_succ (f : Nat → Bool) (n : Nat) : count f (n + 1) = count f n + if f n then 1 else 0 := rfl
theorem count_le (f : Nat → Bool) (n : Nat) : count f n ≤ n := by
  induction n with
  | zero => exact Nat.le_refl _
  | succ n ih => rw [count_succ]; split <;> omega
theorem count_congr {f g : Nat → Bool} {n : Nat} (h : ∀ k, k < n → f k = g k) : count f n = count g n := by
  induction n with
  | zero => rfl
  | succ n ih => rw [count_succ, count_succ, ih (fun k hk => h k (by omega)), h n (by omega)]
theorem count_add (f : Nat → Bool) (a n : Nat) : count f (a + n) = count f a + count (fun k => f (a + k)) n := by
  induction n with
  | zero => rfl
  | succ n ih => rw [← Nat.add_assoc, count_succ, count_succ, ih]; omega
theorem count_word (S : Nat → Bool) (i : Nat) : count (fun k => (word S i).testBit k) 64 = count (fun k => S (64 * i + k)) 64 :=
  count_congr fun k hk => by unfold word; rw [testBit_num]; simp [hk]
theorem count_next (S : Nat → Bool) (i : Nat) : count S (64 * (i + 1)) = count S (64 * i) + count (fun k => (word S i).testBit k) 64 := by
  rw [count_word, show 64 * (i + 1) = 64 * i + 64 by omega, count_add]
theorem count_filter (f : Nat → Bool) (n : Nat) : ((List.range n).filter f).length = count f n := by
  induction n with
  | zero => rfl
  | succ n ih =>
    rw [List.range_succ, List.filter_append, List.length_append, ih, count_succ]
    cases h : f n <;> simp [h]

end Slot
end Go.Proofs.YtgpdbcigogkkbaaDoor
