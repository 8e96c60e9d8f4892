/- Numbers in texts: plain mathematics, nothing of the program. -/
import Derived.Lib.ItoaMem
import Derived.Lib.Strings
namespace Go.Proofs.YtpmpndfinghlkaaDoor
open Go

abbrev dec (n : Nat) : List UInt8 := Lib.decDigits n
theorem digit_nat (n : Nat) (h : n < 10) : (UInt8.ofNat (48 + n)).toNat = 48 + n := by
  rw [UInt8.toNat_ofNat']; omega
theorem dec_small {n : Nat} (h : n < 10) : dec n = [UInt8.ofNat (48 + n)] := Lib.decDigits_one h
theorem dec_big {n : Nat} (h : ¬ n < 10) : dec n = dec (n / 10) ++ [UInt8.ofNat (48 + n % 10)] := by
  unfold dec; rw [Lib.decDigits, dif_neg h]
theorem dec_ne (n : Nat) : dec n ≠ [] := by
  by_cases h : n < 10
  · rw [dec_small h]; simp
  · rw [dec_big h]; simp
/-- all are digits -/
def Dig (l : List UInt8) : Prop := ∀ b ∈ l, 48 ≤ b.toNat ∧ b.toNat ≤ 57
theorem dec_dig (n : Nat) : Dig (dec n) := by
  induction n using Nat.strongRecOn with
  | ind n ih =>
    by_cases h : n < 10
    · rw [dec_small h]
      intro b hb
      have : b = UInt8.ofNat (48 + n) := by simpa using hb
      subst this
      rw [digit_nat n h]; omega
    · rw [dec_big h]
      intro b hb
      rcases List.mem_append.1 hb with hb | hb
      · exact ih (n / 10) (by omega) b hb
      · have : b = UInt8.ofNat (48 + n % 10) := by simpa using hb
        subst this
        rw [digit_nat _ (by omega)]; omega
/-- the number that digits give -/
def val (l : List UInt8) : Nat := l.foldl (fun a d => a * 10 + (d.toNat - 48)) 0
theorem val_snoc (l : List UInt8) (d : UInt8) : val (l ++ [d]) = val l * 10 + (d.toNat - 48) := by simp [val]
theorem val_nil : val [] = 0 := rfl
theorem val_app (l : List UInt8) : ∀ r, val l ≤ val (l ++ r) := by
  intro r
  induction r generalizing l with
  | nil => simp
  | cons d r ih =>
    have h1 := ih (l ++ [d])
    rw [List.append_assoc, List.singleton_append] at h1
    have h2 := val_snoc l d
    omega
theorem val_take (l : List UInt8) (k : Nat) : val (l.take k) ≤ val l := by
  have := val_app (l.take k) (l.drop k)
  rwa [List.take_append_drop] at this
theorem val_take_succ (l : List UInt8) (k : Nat) (h : k < l.length) : val (l.take (k + 1)) = val (l.take k) * 10 + (l[k].toNat - 48) := by
  rw [List.take_succ_eq_append_getElem h, val_snoc]
theorem val_dec (n : Nat) : val (dec n) = n := by
  induction n using Nat.strongRecOn with
  | ind n ih =>
    by_cases h : n < 10
    · rw [dec_small h]
      have := digit_nat n h
      simp only [val, List.foldl_cons, List.foldl_nil, this]
      omega
    · rw [dec_big h, val_snoc, ih (n / 10) (by omega), digit_nat _ (by omega)]
      omega
theorem digit_back (d : UInt8) (h0 : 48 ≤ d.toNat) : UInt8.ofNat (48 + (d.toNat - 48)) = d := by
  have : 48 + (d.toNat - 48) = d.toNat := by omega
  rw [this]
  exact UInt8.ofNat_toNat
/-- no nought ahead: what digits give has so many digits -/
theorem val_big (d : UInt8) (hd0 : 49 ≤ d.toNat) : ∀ n (l : List UInt8), l.length = n → Dig (d :: l) → 10 ^ l.length ≤ val (d :: l) := by
  intro n
  induction n with
  | zero =>
    intro l hl _
    obtain rfl := List.length_eq_zero_iff.1 hl
    simp [val]; omega
  | succ n ih =>
    intro l hl h
    obtain ⟨l', x, rfl⟩ : ∃ l' x, l = l' ++ [x] := ⟨l.dropLast, l.getLast (by rintro rfl; simp at hl), (List.dropLast_concat_getLast _).symm⟩
    have hl' : l'.length = n := by simpa using hl
    have := ih l' hl' (fun b hb => h b (by rw [← List.cons_append]; exact List.mem_append_left _ hb))
    rw [List.length_append, List.length_singleton, Nat.pow_succ, ← List.cons_append, val_snoc]
    omega
theorem dec_val_aux (d : UInt8) (hd0 : 49 ≤ d.toNat) : ∀ n (l : List UInt8), l.length = n → Dig (d :: l) → dec (val (d :: l)) = d :: l := by
  intro n
  induction n with
  | zero =>
    intro l hl h
    obtain rfl := List.length_eq_zero_iff.1 hl
    have hd := h d (by simp)
    have e : val [d] = d.toNat - 48 := by simp [val]
    rw [e, dec_small (by omega), digit_back d (by omega)]
  | succ n ih =>
    intro l hl h
    obtain ⟨l', x, rfl⟩ : ∃ l' x, l = l' ++ [x] := ⟨l.dropLast, l.getLast (by rintro rfl; simp at hl), (List.dropLast_concat_getLast _).symm⟩
    have hl' : l'.length = n := by simpa using hl
    have h' : Dig (d :: l') := fun b hb => h b (by rw [← List.cons_append]; exact List.mem_append_left _ hb)
    have hx := h x (by simp)
    have hb := val_big d hd0 _ l' rfl h'
    have hp : 0 < 10 ^ l'.length := Nat.pow_pos (by decide)
    rw [← List.cons_append, val_snoc, dec_big (by omega)]
    rw [show (val (d :: l') * 10 + (x.toNat - 48)) / 10 = val (d :: l') by omega, show (val (d :: l') * 10 + (x.toNat - 48)) % 10 = x.toNat - 48 by omega, ih l' hl' h', digit_back x (by omega)]
/-- a text that begins with a minus -/
def neg (l : List UInt8) : Bool := l.head? == some 45
/-- what stands behind it -/
def digs (l : List UInt8) : List UInt8 := if neg l then l.tail else l
theorem neg_minus (l : List UInt8) : neg (45 :: l) = true := by simp [neg]
theorem neg_not {l : List UInt8} (h : neg l = true) : ∃ r, l = 45 :: r := by
  cases l with
  | nil => simp [neg] at h
  | cons b l => simp [neg] at h; exact ⟨l, by rw [h]⟩
theorem digs_minus (l : List UInt8) : digs (45 :: l) = l := by simp [digs, neg]
theorem digs_plain {l : List UInt8} (h : neg l = false) : digs l = l := by simp [digs, h]
/-- a digit -/
def isD (b : UInt8) : Bool := decide (48 ≤ b.toNat ∧ b.toNat ≤ 57)
/-- a text that is written as a number is -/
def formed (l : List UInt8) : Bool := !(digs l).isEmpty && (!((digs l).head? == some 48) || l == [48]) && (digs l).all isD
theorem all_dig {l : List UInt8} : l.all isD = true ↔ Dig l := by simp [Dig, isD, List.all_eq_true]
/-- what a formed text is -/
theorem formed_parts {l : List UInt8} (h : formed l = true) : Dig (digs l) ∧ (l = [48] ∨ ∃ d r, digs l = d :: r ∧ 49 ≤ d.toNat) := by
  simp only [formed, Bool.and_eq_true, Bool.or_eq_true, Bool.not_eq_true', beq_eq_false_iff_ne, beq_iff_eq, ne_eq] at h
  obtain ⟨⟨h1, h2⟩, h3⟩ := h
  have hD := all_dig.1 h3
  refine ⟨hD, ?_⟩
  rcases h2 with h2 | h2
  · right
    cases hd : digs l with
    | nil => rw [hd] at h1; simp at h1
    | cons d r =>
      have := hD d (by rw [hd]; simp)
      rw [hd] at h2
      have hne : ¬ d = 48 := by simpa using h2
      refine ⟨d, r, rfl, ?_⟩
      have : d.toNat ≠ 48 := fun e => hne (UInt8.toNat_inj.1 e)
      omega
  · exact .inl h2
theorem dec_val {l : List UInt8} (h : formed l = true) : dec (val (digs l)) = digs l := by
  obtain ⟨hD, rfl | ⟨d, r, hd, h0⟩⟩ := formed_parts h
  · show dec 0 = [48]
    rw [dec_small (by decide)]
    decide
  · rw [hd] at hD ⊢
    exact dec_val_aux d h0 _ r rfl hD
/-- the number that a text is, if it is one -/
def num (l : List UInt8) : Int := if neg l then -(val (digs l) : Int) else val (digs l)
/-- it can be held -/
def fits (l : List UInt8) : Bool := if neg l then decide (val (digs l) ≤ 9223372036854775808) else decide (val (digs l) ≤ 9223372036854775807)
theorem itoa_num {l : List UInt8} (h : formed l = true) : Lib.itoa (num l) = l := by
  have hd := dec_val h
  cases hn : neg l
  · rw [digs_plain hn] at hd
    simp only [num, hn, digs_plain hn]
    rw [if_neg (by decide), Lib.itoa_nonneg]
    exact hd
  · obtain ⟨r, rfl⟩ := neg_not hn
    simp only [num, hn, digs_minus, if_true] at hd ⊢
    have hv : 1 ≤ val r := by
      obtain ⟨_, h1 | ⟨d, x, h1, h0⟩⟩ := formed_parts h
      · simp at h1
      · have := val_big d h0 _ x rfl (by rw [← h1, digs_minus]; have := (formed_parts h).1; rwa [digs_minus] at this)
        rw [digs_minus] at h1
        rw [h1]
        have hp : 0 < 10 ^ x.length := Nat.pow_pos (by decide)
        omega
    rw [Lib.itoa_neg _ hv]
    exact congrArg _ hd
theorem num_fits {l : List UInt8} (h : fits l = true) : -9223372036854775808 ≤ num l ∧ num l ≤ 9223372036854775807 := by
  cases hn : neg l <;> simp only [fits, num, hn, if_true, Bool.false_eq_true, if_false, decide_eq_true_eq] at h ⊢ <;> omega
/-- a long text is too great or too small -/
theorem long_over {l : List UInt8} (h : formed l = true) (hl : 20 < l.length) : fits l = false := by
  obtain ⟨hD, rfl | ⟨d, r, hd, h0⟩⟩ := formed_parts h
  · simp at hl
  · rw [hd] at hD
    have hb := val_big d h0 _ r rfl hD
    have hr : 19 ≤ r.length := by
      cases hn : neg l
      · rw [digs_plain hn] at hd; rw [hd] at hl; simp at hl; omega
      · obtain ⟨x, rfl⟩ := neg_not hn
        rw [digs_minus] at hd; rw [hd] at hl; simp at hl; omega
    have hp : 10 ^ 19 ≤ 10 ^ r.length := Nat.pow_le_pow_right (by decide) hr
    cases hn : neg l <;> simp only [fits, hn, if_true, Bool.false_eq_true, if_false, decide_eq_false_iff_not, hd] <;> omega
/-- what Parse tells: the number and the error -/
def tellV (l : List UInt8) : Int := if formed l && fits l then num l else 0
def tellE (l : List UInt8) : Int := if formed l then (if fits l then 0 else 51) else 50
theorem head_dec (n : Nat) : (dec n).head? = some 48 → n = 0 := by
  induction n using Nat.strongRecOn with
  | ind n ih =>
    by_cases h : n < 10
    · rw [dec_small h]
      intro e
      have e : UInt8.ofNat (48 + n) = 48 := by simpa using e
      have := congrArg UInt8.toNat e
      rw [digit_nat n h] at this
      have : 48 + n = 48 := this
      omega
    · rw [dec_big h]
      intro e
      have := dec_ne (n / 10)
      cases hd : dec (n / 10) with
      | nil => exact absurd hd this
      | cons d r =>
        rw [hd] at e
        have := ih (n / 10) (by omega) (by rw [hd]; simpa using e)
        omega
theorem neg_dec (n : Nat) : neg (dec n) = false := by
  cases hn : neg (dec n)
  · rfl
  · obtain ⟨r, hr⟩ := neg_not hn
    have := dec_dig n 45 (by rw [hr]; simp)
    revert this; decide
/-- a number that is written is formed, fits, and is the number -/
theorem itoa_formed (n : Int) (h0 : -9223372036854775808 ≤ n) (h1 : n ≤ 9223372036854775807) : formed (Lib.itoa n) = true ∧ fits (Lib.itoa n) = true ∧ num (Lib.itoa n) = n := by
  by_cases hv : 0 ≤ n
  · obtain ⟨m, rfl⟩ := Int.eq_ofNat_of_zero_le hv
    rw [Lib.itoa_nonneg]
    have hn := neg_dec m
    have hd := digs_plain hn
    have hne := dec_ne m
    have hh := head_dec m
    have hD := all_dig.2 (dec_dig m)
    have hv := val_dec m
    refine ⟨?_, ?_, ?_⟩
    · show formed (dec m) = true
      simp only [formed, hd, hD, Bool.and_true, Bool.and_eq_true, Bool.or_eq_true, Bool.not_eq_true', beq_eq_false_iff_ne, beq_iff_eq, ne_eq, List.isEmpty_eq_false_iff]
      refine ⟨hne, ?_⟩
      by_cases e : (dec m).head? = some 48
      · right
        rw [hh e, dec_small (by decide)]
        decide
      · exact .inl e
    · show fits (dec m) = true
      simp only [fits, hn, hd, hv, Bool.false_eq_true, if_false, decide_eq_true_eq]; omega
    · show num (dec m) = m
      simp only [num, hn, hd, hv, Bool.false_eq_true, if_false]
  · obtain ⟨m, rfl⟩ : ∃ m : Nat, n = -(m : Int) := ⟨n.natAbs, by omega⟩
    rw [Lib.itoa_neg m (by omega)]
    have hne := dec_ne m
    have hD := all_dig.2 (dec_dig m)
    have hv := val_dec m
    refine ⟨?_, ?_, ?_⟩
    · show formed (45 :: dec m) = true
      simp only [formed, digs_minus, hD, Bool.and_true, Bool.and_eq_true, Bool.or_eq_true, Bool.not_eq_true', beq_eq_false_iff_ne, beq_iff_eq, ne_eq, List.isEmpty_eq_false_iff]
      exact ⟨hne, .inl fun e => by have := head_dec m e; omega⟩
    · show fits (45 :: dec m) = true
      simp only [fits, neg_minus, digs_minus, hv, if_true, decide_eq_true_eq]; omega
    · show num (45 :: dec m) = _
      simp only [num, neg_minus, digs_minus, hv, if_true]

end Go.Proofs.YtpmpndfinghlkaaDoor
