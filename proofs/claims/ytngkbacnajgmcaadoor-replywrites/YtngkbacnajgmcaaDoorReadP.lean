/- What reading leaves, and which errors it tells: plain mathematics. -/
import Derived.Test.YtngkbacnajgmcaaDoorModel
namespace Go.Proofs.YtngkbacnajgmcaaDoor

theorem cutLn_bad {s : List UInt8} {room : Nat} {y : Int} (h : cutLn s room = .bad y) : y = 40 ∨ y = 41 := by
  unfold cutLn at h
  split at h
  · injection h with h; exact .inl h.symm
  · split at h
    · split at h
      · split at h
        · injection h with h; exact .inr h.symm
        · injection h with h; exact .inl h.symm
      · split at h
        · cases h
        · injection h with h; exact .inr h.symm
    · injection h with h; exact .inr h.symm
theorem rdBulk_bad {t s : List UInt8} {y : Int} (h : rdBulk t s = .bad y) : y = 40 ∨ y = 41 := by
  unfold rdBulk at h
  split at h
  · cases h
  · split at h
    · injection h with h; exact .inr h.symm
    · split at h
      · injection h with h; exact .inl h.symm
      · split at h
        · split at h
          · cases h
          · injection h with h; exact .inl h.symm
        · injection h with h; exact .inr h.symm
theorem rdBulk_rest {t s rest : List UInt8} {r : Rep} (h : rdBulk t s = .got r rest) : rest.length ≤ s.length := by
  unfold rdBulk at h
  split at h
  · injection h with _ h; rw [h]; exact Nat.le_refl _
  · split at h
    · cases h
    · split at h
      · cases h
      · split at h
        · split at h
          · injection h with _ h; rw [← h]; simp
          · cases h
        · cases h
theorem rdAll_bad {f : List UInt8 → Res} (hf : ∀ s y, f s = .bad y → y = 40 ∨ y = 41) : ∀ {n : Nat} {s : List UInt8} {y : Int}, rdAll f n s = .bad y → y = 40 ∨ y = 41
  | 0, s, y, h => by simp [rdAll] at h
  | n + 1, s, y, h => by
    simp only [rdAll] at h
    split at h
    · rename_i hx
      injection h with h
      exact h ▸ hf _ _ hx
    · split at h
      · rename_i hx
        injection h with h
        exact h ▸ rdAll_bad hf hx
      · cases h
theorem rdAll_rest {f : List UInt8 → Res} (hf : ∀ s r rest, f s = .got r rest → rest.length ≤ s.length) : ∀ {n : Nat} {s : List UInt8} {l : List Rep} {rest : List UInt8}, rdAll f n s = .got l rest → rest.length ≤ s.length ∧ l.length = n
  | 0, s, l, rest, h => by simp [rdAll] at h; rw [h.2, h.1]; simp
  | n + 1, s, l, rest, h => by
    simp only [rdAll] at h
    split at h
    · cases h
    · rename_i r0 rest0 hx
      split at h
      · cases h
      · rename_i l1 rest1 hy
        injection h with h1 h2
        have a := hf _ _ _ hx
        obtain ⟨b, c⟩ := rdAll_rest hf hy
        rw [← h1, ← h2]
        simp
        omega
theorem rdList_bad {sub : Nat → List UInt8 → ResL} (hf : ∀ n s y, sub n s = .bad y → y = 40 ∨ y = 41) {t s : List UInt8} {y : Int} (h : rdList sub t s = .bad y) : y = 40 ∨ y = 41 := by
  unfold rdList at h
  split at h
  · injection h with h; exact .inr h.symm
  · exact hf _ _ _ h
theorem rdKind_bad {sub : Nat → List UInt8 → ResL} (hf : ∀ n s y, sub n s = .bad y → y = 40 ∨ y = 41) {c : UInt8} {t s : List UInt8} {y : Int} (h : rdKind sub c t s = .bad y) : y = 40 ∨ y = 41 := by
  unfold rdKind at h
  split at h
  · split at h
    · cases h
    · injection h with h; exact .inr h.symm
  · split at h
    · split at h
      · cases h
      · injection h with h; exact .inr h.symm
    · split at h
      · split at h
        · cases h
        · injection h with h; exact .inr h.symm
      · split at h
        · exact rdBulk_bad h
        · split at h
          · cases h
          · rename_i hx
            injection h with h
            exact h ▸ rdList_bad hf hx
theorem rdKind_rest {sub : Nat → List UInt8 → ResL} (hf : ∀ n s l rest, sub n s = .got l rest → rest.length ≤ s.length) {c : UInt8} {t s rest : List UInt8} {r : Rep} (h : rdKind sub c t s = .got r rest) : rest.length ≤ s.length := by
  unfold rdKind at h
  split at h
  · split at h
    · injection h with _ h; rw [h]; exact Nat.le_refl _
    · cases h
  · split at h
    · split at h
      · injection h with _ h; rw [h]; exact Nat.le_refl _
      · cases h
    · split at h
      · split at h
        · injection h with _ h; rw [h]; exact Nat.le_refl _
        · cases h
      · split at h
        · exact rdBulk_rest h
        · split at h
          · rename_i hx
            injection h with _ h
            unfold rdList at hx
            split at hx
            · cases hx
            · exact h ▸ hf _ _ _ _ hx
          · cases h
theorem rdLine_bad {sub : Nat → List UInt8 → ResL} (hf : ∀ n s y, sub n s = .bad y → y = 40 ∨ y = 41) {room : Nat} {s : List UInt8} {y : Int} (h : rdLine sub room s = .bad y) : y = 40 ∨ y = 41 := by
  unfold rdLine at h
  split at h
  · rename_i hx
    injection h with h
    exact h ▸ cutLn_bad hx
  · injection h with h; exact .inr h.symm
  · exact rdKind_bad hf h
theorem rdLine_rest {sub : Nat → List UInt8 → ResL} (hf : ∀ n s l rest, sub n s = .got l rest → rest.length ≤ s.length) {room : Nat} {s rest : List UInt8} {r : Rep} (h : rdLine sub room s = .got r rest) : rest.length ≤ s.length := by
  unfold rdLine at h
  split at h
  · cases h
  · cases h
  · rename_i hx
    obtain ⟨_, _, _, _, _, hr, _⟩ := cutLn_ok hx
    exact Nat.le_trans (rdKind_rest hf h) hr
theorem rd_bad : ∀ {k : Nat} {s : List UInt8} {y : Int}, rd k s = .bad y → y = 40 ∨ y = 41
  | 0, _, _, h => rdLine_bad (fun _ _ y h => by injection h with h; exact .inr h.symm) h
  | _ + 1, _, _, h => rdLine_bad (fun _ _ _ h => rdAll_bad (fun _ _ h => rd_bad h) h) h
theorem rd_rest : ∀ {k : Nat} {s rest : List UInt8} {r : Rep}, rd k s = .got r rest → rest.length ≤ s.length
  | 0, _, _, _, h => rdLine_rest (fun _ _ _ _ h => by cases h) h
  | _ + 1, _, _, _, h => rdLine_rest (fun _ _ _ _ h => (rdAll_rest (fun _ _ _ h => rd_rest h) h).1) h

end Go.Proofs.YtngkbacnajgmcaaDoor
