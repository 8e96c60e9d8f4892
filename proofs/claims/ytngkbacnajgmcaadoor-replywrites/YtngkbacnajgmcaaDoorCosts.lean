/- How long the writing of a small reply is at most. -/
import Derived.Test.YtngkbacnajgmcaaDoorSmall
import Derived.Test.YtngkbacnajgmcaaDoorAppend
namespace Go.Proofs.YtngkbacnajgmcaaDoor

theorem sum_le {f : Rep → Nat} {b : Nat} : ∀ {l : List Rep}, (∀ i (h : i < l.length), f l[i] ≤ b) → (l.map f).sum ≤ l.length * b
  | [], _ => by simp
  | r :: l, h => by
    have h0 := h 0 (by simp)
    have h1 := sum_le (f := f) (b := b) (l := l) (fun i hi => by have := h (i + 1) (by simp; omega); simpa using this)
    simp only [List.getElem_cons_zero] at h0
    rw [List.map_cons, List.sum_cons, List.length_cons, Nat.add_mul, Nat.one_mul]
    omega
theorem sm_cost : ∀ (k j : Nat) (r : Rep), k ≤ j → Sm (j + 1) r → cost k r ≤ 70100 * 61 ^ k := by
  intro k
  induction k with
  | zero =>
    intro j r _ h
    have := h.2.1
    simp [cost]
    omega
  | succ k ih =>
    intro j r hkj h
    obtain ⟨j, rfl⟩ : ∃ i, j = i + 1 := ⟨j - 1, by omega⟩
    obtain ⟨h1, h2, h3⟩ := h
    have hs := sum_le (f := cost k) (b := 70100 * 61 ^ k) (fun i hi => ih j r.list[i] (by omega) (h3 i hi))
    have hp : 1 ≤ 61 ^ k := Nat.one_le_pow _ _ (by decide)
    have hm : r.list.length * (70100 * 61 ^ k) ≤ 60 * (70100 * 61 ^ k) := Nat.mul_le_mul_right _ h1
    unfold cost
    rw [Nat.pow_succ]
    omega
theorem small_cost {r : Rep} (h : Sm 9 r) : cost 4 r ≤ 1000000000000 := by
  have := sm_cost 4 8 r (by decide) h
  omega

end Go.Proofs.YtngkbacnajgmcaaDoor
