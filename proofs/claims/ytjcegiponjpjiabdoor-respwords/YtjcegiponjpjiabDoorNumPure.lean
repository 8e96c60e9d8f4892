/- A line's number, by the document and by the program: the same; plain mathematics. -/
import Derived.Test.YtjcegiponjpjiabDoorNumber
namespace Go.Proofs.YtjcegiponjpjiabDoor

/-- digits read on, without a bound -/
def valGo : Nat → List UInt8 → Option Nat
  | n, [] => some n
  | n, d :: ds => if 48 ≤ d.toNat ∧ d.toNat ≤ 57 then valGo (n * 10 + (d.toNat - 48)) ds else none
theorem valGo_ge : ∀ (ds : List UInt8) (n v : Nat), valGo n ds = some v → n * 10 ^ ds.length ≤ v
  | [], n, v, h => by injection h with h; subst h; simp
  | d :: ds, n, v, h => by
    unfold valGo at h
    split at h
    · have := valGo_ge ds _ v h
      rw [List.length_cons, Nat.pow_succ]
      refine Nat.le_trans ?_ this
      rw [Nat.mul_comm (10 ^ ds.length) 10, ← Nat.mul_assoc]
      exact Nat.mul_le_mul_right _ (Nat.le_add_right _ _)
    · cases h
theorem numGo_val (most : Nat) : ∀ (ds : List UInt8) (n : Nat), n ≤ most → numGo most n ds = (valGo n ds).bind fun v => if most < v then none else some v
  | [], n, h => by simp [numGo, valGo]; omega
  | d :: ds, n, h => by
    unfold numGo valGo
    by_cases hd : 48 ≤ d.toNat ∧ d.toNat ≤ 57
    · rw [if_pos hd, if_pos hd]
      by_cases hm : most < n * 10 + (d.toNat - 48)
      · rw [if_pos hm]
        cases hv : valGo (n * 10 + (d.toNat - 48)) ds with
        | none => rfl
        | some v =>
          have := valGo_ge ds _ v hv
          have h1 : 1 ≤ 10 ^ ds.length := Nat.one_le_pow _ _ (by decide)
          have h2 : n * 10 + (d.toNat - 48) ≤ (n * 10 + (d.toNat - 48)) * 10 ^ ds.length := Nat.le_mul_of_pos_right _ h1
          simp only [Option.bind_some]
          rw [if_pos (by omega)]
      · rw [if_neg hm]
        exact numGo_val most ds _ (by omega)
    · rw [if_neg hd, if_neg hd]; rfl
theorem num_long {l : List UInt8} {most : Nat} (hm : most ≤ 1024) (h : 8 < l.length) : num l most = none := by
  unfold num digitsOf
  by_cases hs : Lib.hasSuffix (l.drop 1) [13, 10] = true
  · rw [if_pos hs]
    simp only
    obtain ⟨ds, hd⟩ : ∃ ds, ds = (l.drop 1).take (l.length - 3) := ⟨_, rfl⟩
    have hl : 6 ≤ ds.length := by rw [hd]; simp; omega
    rw [← hd]
    by_cases hb : ds = [] ∨ (1 < ds.length ∧ ds.head? = some 48)
    · rw [if_pos hb]
    · rw [if_neg hb, numGo_val most ds 0 (Nat.zero_le _)]
      cases hv : valGo 0 ds with
      | none => rfl
      | some v =>
        simp only [Option.bind_some]
        rw [if_pos]
        cases ds with
        | nil => simp at hl
        | cons d r =>
          unfold valGo at hv
          split at hv
          · rename_i hd48
            have hne : d.toNat ≠ 48 := fun e => hb (.inr ⟨by omega, by simp; exact UInt8.toNat_inj.1 e⟩)
            have := valGo_ge r _ v hv
            have h5 : 10 ^ 5 ≤ 10 ^ r.length := Nat.pow_le_pow_right (by decide) (by simp at hl; omega)
            have h6 : 1 * 10 ^ r.length ≤ (0 * 10 + (d.toNat - 48)) * 10 ^ r.length := Nat.mul_le_mul_right _ (by omega)
            omega
          · cases hv
  · rw [if_neg hs]
theorem num_short {l : List UInt8} {most : Nat} (h : l.length < 4) : num l most = none := by
  unfold num digitsOf
  by_cases hs : Lib.hasSuffix (l.drop 1) [13, 10] = true
  · rw [if_pos hs]
    simp only
    rw [if_pos (.inl (List.eq_nil_of_length_eq_zero (by simp; omega)))]
  · rw [if_neg hs]

end Go.Proofs.YtjcegiponjpjiabDoor
