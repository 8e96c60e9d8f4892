/- Numbers as texts, and back; where a byte is found: plain mathematics, nothing of the program. -/
import Derived.Test.YtpmpndfinghlkaaDoorModel
import Derived.Lib.AtoiAllCases
import Derived.Lib.Bytealg
import Derived.Lib.ItoaLen
namespace Go.Proofs.YtpmpndfinghlkaaDoor

theorem dec_digit (n : Nat) : ∀ b ∈ dec n, 48 ≤ b.toNat ∧ b.toNat ≤ 57 := by
  induction n using Nat.strongRecOn with
  | ind n ih =>
    unfold dec
    rw [Lib.decDigits]
    split
    · intro b hb
      have : b = UInt8.ofNat (48 + n) := by simpa using hb
      subst this
      rw [UInt8.toNat_ofNat']
      omega
    · intro b hb
      rcases List.mem_append.1 hb with hb | hb
      · exact ih (n / 10) (by omega) b hb
      · have : b = UInt8.ofNat (48 + n % 10) := by simpa using hb
        subst this
        rw [UInt8.toNat_ofNat']
        omega
theorem parse_dec_aux (l : List UInt8) : ∀ acc d, (∀ b ∈ l, 48 ≤ b.toNat ∧ b.toNat ≤ 57) → 48 ≤ d.toNat → d.toNat ≤ 57 →
    Lib.parseUint10 acc (l ++ [d]) = (match Lib.parseUint10 acc l with | .ok u => if 1844674407370955162 ≤ u then .range else if 18446744073709551616 ≤ u * 10 + (d.toNat - 48) then .range else .ok (u * 10 + (d.toNat - 48)) | e => e) := by
  induction l with
  | nil => intro acc d _ h1 h2; simp [Lib.parseUint10, h1, h2]
  | cons c l ih =>
    intro acc d h h1 h2
    have hc := h c (by simp)
    simp only [List.cons_append, Lib.parseUint10, if_pos hc]
    split
    · rfl
    · split
      · rfl
      · exact ih _ d (fun b hb => h b (by simp [hb])) h1 h2
theorem parse_dec (n : Nat) (hn : n < 18446744073709551616) : Lib.parseUint10 0 (dec n) = .ok n := by
  induction n using Nat.strongRecOn with
  | ind n ih =>
    unfold dec
    rw [Lib.decDigits]
    split
    · have e : (UInt8.ofNat (48 + n)).toNat = 48 + n := by rw [UInt8.toNat_ofNat']; omega
      simp only [Lib.parseUint10, e]
      rw [if_pos (by omega), if_neg (by omega), if_neg (by omega)]
      congr 1
      omega
    · have e : (UInt8.ofNat (48 + n % 10)).toNat = 48 + n % 10 := by rw [UInt8.toNat_ofNat']; omega
      rw [parse_dec_aux _ 0 _ (dec_digit _) (by omega) (by omega), ih (n / 10) (by omega) (by omega)]
      simp only [e]
      rw [if_neg (by omega), if_neg (by omega)]
      congr 1
      omega
theorem mag_dec (n : Nat) (hn : n < 18446744073709551616) : Lib.parseMag (dec n) = .ok n := by
  unfold Lib.parseMag
  rw [if_neg (dec_ne n), parse_dec n hn]
/-- a number that is written is read as it was -/
theorem atoi_itoa (v : Int) (h0 : -9223372036854775808 ≤ v) (h1 : v ≤ 9223372036854775807) : Lib.atoiAll (Lib.itoa v) = .ok v := by
  by_cases hv : 0 ≤ v
  · obtain ⟨n, rfl⟩ := Int.eq_ofNat_of_zero_le hv
    rw [Lib.itoa_nonneg]
    have hm := mag_dec n (by omega)
    have hd := dec_digit n
    have hne := dec_ne n
    unfold dec at hm hd hne
    generalize Lib.decDigits n = l at hm hd hne
    cases l with
    | nil => exact absurd rfl hne
    | cons c r =>
      have hc := hd c (by simp)
      rw [Lib.atoiAll_plain c r (by omega) (by omega), hm]
      simp only [Lib.signless]
      rw [if_neg (by omega)]
  · obtain ⟨n, hn⟩ : ∃ n : Nat, v = -(n : Int) := ⟨v.natAbs, by omega⟩
    subst hn
    rw [Lib.itoa_neg n (by omega), Lib.atoiAll_minus]
    have hm := mag_dec n (by omega)
    unfold dec at hm
    rw [hm]
    simp only [Lib.signed]
    rw [if_neg (by omega)]
/-- the bytes of a number's writing -/
theorem itoa_bytes (v : Int) : ∀ b ∈ Lib.itoa v, b.toNat = 45 ∨ 48 ≤ b.toNat ∧ b.toNat ≤ 57 := by
  by_cases hv : 0 ≤ v
  · obtain ⟨n, rfl⟩ := Int.eq_ofNat_of_zero_le hv
    rw [Lib.itoa_nonneg]
    exact fun b hb => .inr (dec_digit n b hb)
  · obtain ⟨n, hn⟩ : ∃ n : Nat, v = -(n : Int) := ⟨v.natAbs, by omega⟩
    subst hn
    rw [Lib.itoa_neg n (by omega)]
    intro b hb
    rcases List.mem_cons.1 hb with rfl | hb
    · exact .inl rfl
    · exact .inr (dec_digit n b hb)
theorem itoa_no (v : Int) (c : UInt8) (h : c.toNat < 45) : c ∉ Lib.itoa v := fun m => by
  have := itoa_bytes v c m
  omega
/-- the writing of a number that is not below 0 is not -1 -/
theorem itoa_not (n : Nat) : Lib.itoa (n : Int) ≠ [45, 49] := fun e => by
  rw [Lib.itoa_nonneg] at e
  have := dec_digit n 45 (by unfold dec; rw [e]; simp)
  revert this
  decide
/-- where a byte is -/
theorem index_none (c : UInt8) : ∀ l : List UInt8, c ∉ l → Lib.indexByte l c = -1
  | [], _ => rfl
  | b :: l, h => by
    have hb : ¬ b = c := fun e => h (by simp [e])
    have := index_none c l (fun m => h (List.mem_cons_of_mem _ m))
    simp [Lib.indexByte, hb, this]
theorem index_at (c : UInt8) : ∀ p r : List UInt8, c ∉ p → Lib.indexByte (p ++ c :: r) c = p.length
  | [], r, _ => by simp [Lib.indexByte]
  | b :: p, r, h => by
    have hb : ¬ b = c := fun e => h (by simp [e])
    have := index_at c p r (fun m => h (List.mem_cons_of_mem _ m))
    have ne : ¬ ((p.length : Int) = -1) := by omega
    simp [Lib.indexByte, hb, this, ne]
theorem index_cases (c : UInt8) (l : List UInt8) : (Lib.indexByte l c = -1 ∧ c ∉ l) ∨ ∃ p r, l = p ++ c :: r ∧ c ∉ p ∧ Lib.indexByte l c = p.length := by
  by_cases h : c ∈ l
  · obtain ⟨p, r, e, hp⟩ : ∃ p r, l = p ++ c :: r ∧ c ∉ p := by
      induction l with
      | nil => simp at h
      | cons b l ih =>
        by_cases hb : b = c
        · subst hb; exact ⟨[], l, rfl, by simp⟩
        · have hm : c ∈ l := by
            rcases List.mem_cons.1 h with h | h
            · exact absurd h.symm hb
            · exact h
          obtain ⟨p, r, rfl, hp⟩ := ih hm
          exact ⟨b :: p, r, rfl, by simp [hp, Ne.symm hb]⟩
    exact .inr ⟨p, r, e, hp, by rw [e]; exact index_at c p r hp⟩
  · exact .inl ⟨index_none c l h, h⟩

end Go.Proofs.YtpmpndfinghlkaaDoor
