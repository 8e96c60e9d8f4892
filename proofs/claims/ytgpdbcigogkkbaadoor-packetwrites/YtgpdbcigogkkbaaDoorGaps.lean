/- The list of a set's slots, and what stands between them: plain mathematics. -/
import Derived.Test.YtgpdbcigogkkbaaDoorRefAll
namespace Go.Proofs.YtgpdbcigogkkbaaDoor
namespace Slot

theorem upto_mem (S : Nat → Bool) (m n : Nat) : n ∈ upto S m ↔ n < m ∧ S n = true := by simp [upto]
theorem upto_sorted (S : Nat → Bool) (m : Nat) : (upto S m).Pairwise (· < ·) := by
  unfold upto
  exact List.Pairwise.filter _ List.pairwise_lt_range
theorem upto_at {S : Nat → Bool} {m j : Nat} (h : j < (upto S m).length) : (upto S m)[j] < m ∧ S (upto S m)[j] = true := (upto_mem S m _).1 (List.getElem_mem h)
theorem upto_lt {S : Nat → Bool} {m i j : Nat} (h : i < j) (hj : j < (upto S m).length) : (upto S m)[i]'(by omega) < (upto S m)[j] := List.pairwise_iff_getElem.1 (upto_sorted S m) i j (by omega) hj h
theorem upto_find {S : Nat → Bool} {m n : Nat} (h : n < m) (hS : S n = true) : ∃ j, ∃ hj : j < (upto S m).length, (upto S m)[j] = n := List.getElem_of_mem ((upto_mem S m n).2 ⟨h, hS⟩)
/-- from m on the next slot is the one at i -/
structure Gap (S : Nat → Bool) (m i : Nat) : Prop where
  here : ∀ h : i < (upto S top).length, m ≤ (upto S top)[i] ∧ ∀ n, m ≤ n → n < (upto S top)[i] → S n = false
  last : (upto S top).length ≤ i → ∀ n, m ≤ n → n < top → S n = false
theorem gap_first (S : Nat → Bool) : Gap S 0 0 := by
  constructor
  · intro h
    refine ⟨Nat.zero_le _, fun n _ hn => ?_⟩
    cases e : S n
    · rfl
    · obtain ⟨j, hj, rfl⟩ := upto_find (m := top) (by have := (upto_at h).1; omega) e
      rcases Nat.eq_zero_or_pos j with rfl | hp
      · omega
      · have := upto_lt hp hj; omega
  · intro h n _ hn
    cases e : S n
    · rfl
    · obtain ⟨j, hj, _⟩ := upto_find (m := top) hn e
      omega
theorem gap_next {S : Nat → Bool} {k : Nat} (hk : k < (upto S top).length) : Gap S ((upto S top)[k] + 1) (k + 1) := by
  constructor
  · intro h
    have h1 := upto_lt (S := S) (m := top) (Nat.lt_succ_self k) h
    refine ⟨h1, fun n a b => ?_⟩
    cases e : S n
    · rfl
    · obtain ⟨j, hj, rfl⟩ := upto_find (m := top) (by have := (upto_at h).1; omega) e
      rcases Nat.lt_trichotomy j (k + 1) with c | c | c
      · rcases Nat.eq_or_lt_of_le (Nat.le_of_lt_succ c) with c | c
        · subst c; omega
        · have := upto_lt c hk; omega
      · subst c; omega
      · have := upto_lt c hj; omega
  · intro h n a b
    cases e : S n
    · rfl
    · obtain ⟨j, hj, rfl⟩ := upto_find (m := top) b e
      rcases Nat.eq_or_lt_of_le (Nat.le_of_lt_succ (show j < k + 1 by omega)) with c | c
      · subst c; omega
      · have := upto_lt c hk; omega
/-- behind the run that ends at k no slot follows at once -/
theorem gap_end {S : Nat → Bool} {k : Nat} (hk : k < (upto S top).length) (h : k + 1 < (upto S top).length → ∀ h', (upto S top)[k + 1]'h' ≠ (upto S top)[k] + 1) : (upto S top)[k] + 1 < top → S ((upto S top)[k] + 1) = false := fun hlt => by
  have g := gap_next hk
  by_cases c : k + 1 < (upto S top).length
  · have h1 := g.here c
    exact h1.2 _ (Nat.le_refl _) (by have := h c c; omega)
  · exact g.last (by omega) _ (Nat.le_refl _) hlt

end Slot
end Go.Proofs.YtgpdbcigogkkbaaDoor
