/- Plain mathematics, no program in it: bits of a text that are turned within sixteen in a row change its sum. -/
import Derived.Test.YtgpdbcigogkkbaaDoorCrcBits
namespace Go.Proofs.YtgpdbcigogkkbaaDoor.Crc

/-- the bit at place j of a text, the highest of each byte first -/
def bitAt (d : List (BitVec 8)) (j : Nat) : Bool := (d.getD (j / 8) 0#8).getLsbD (7 - j % 8)
/-- the sum, bit by bit -/
def run (f : Nat → Bool) : Nat → BitVec 16
  | 0 => 0#16
  | j + 1 => bstep (run f j) (f j)

theorem run_congr (f g : Nat → Bool) : ∀ n, (∀ j, j < n → f j = g j) → run f n = run g n
  | 0, _ => rfl
  | n + 1, h => by rw [run, run, run_congr f g n (fun j hj => h j (by omega)), h n (by omega)]
theorem bitAt_in (d : List (BitVec 8)) (k i : Nat) (hi : i < 8) : bitAt d (8 * k + i) = (d.getD k 0#8).getLsbD (7 - i) := by
  unfold bitAt
  rw [show (8 * k + i) / 8 = k by omega, show (8 * k + i) % 8 = i by omega]
theorem run_bytes (d : List (BitVec 8)) : ∀ k, k ≤ d.length → run (bitAt d) (8 * k) = more 0#16 (d.take k)
  | 0, _ => rfl
  | k + 1, h => by
    have ih := run_bytes d k (by omega)
    have e : d.take (k + 1) = d.take k ++ [d.getD k 0#8] := by
      rw [List.take_succ_eq_append_getElem (by omega)]
      simp [List.getD, show k < d.length by omega]
    rw [e, more_append, ← ih]
    show run (bitAt d) (8 * k + 8) = step (run (bitAt d) (8 * k)) (d.getD k 0#8)
    simp only [run, step, bits8, List.foldl]
    rw [show 8 * k = 8 * k + 0 from rfl]
    simp only [Nat.add_assoc, bitAt_in d k _ (show 0 < 8 by decide), Nat.reduceAdd, bitAt_in d k _ (show 1 < 8 by decide), bitAt_in d k _ (show 2 < 8 by decide), bitAt_in d k _ (show 3 < 8 by decide), bitAt_in d k _ (show 4 < 8 by decide), bitAt_in d k _ (show 5 < 8 by decide), bitAt_in d k _ (show 6 < 8 by decide), bitAt_in d k _ (show 7 < 8 by decide)]

theorem bstep_zero : bstep 0#16 false = 0#16 := by decide
theorem run_zero (f : Nat → Bool) : ∀ n, (∀ j, j < n → f j = false) → run f n = 0#16
  | 0, _ => rfl
  | n + 1, h => by rw [run, run_zero f n (fun j hj => h j (by omega)), h n (by omega), bstep_zero]

theorem bstep_low (c : BitVec 16) (b : Bool) (i : Nat) (hi : i + 1 < 16) (h : ∃ t, t ≤ i ∧ c.getLsbD t = true) : ∃ t, t ≤ i + 1 ∧ (bstep c b).getLsbD t = true := by
  unfold bstep
  by_cases hb : (c.msb ^^ b) = true
  · exact ⟨0, by omega, by simp [hb]⟩
  · obtain ⟨t, ht, hc⟩ := h
    refine ⟨t + 1, by omega, ?_⟩
    simp [hb, hc]
    omega
theorem bstep_ne (c : BitVec 16) (h : c ≠ 0#16) : bstep c false ≠ 0#16 := by
  unfold bstep
  intro e
  by_cases hb : c.msb = true
  · have := congrArg (fun x => x.getLsbD 0) e
    simp [hb] at this
  · apply h
    simp [hb] at e
    apply BitVec.eq_of_getLsbD_eq
    intro i hi
    by_cases h15 : i = 15
    · subst h15
      have hm : c.getLsbD 15 = false := by simpa [BitVec.msb_eq_getLsbD_last] using hb
      rw [hm]; simp
    · have := congrArg (fun x => x.getLsbD (i + 1)) e
      simp at this
      have h16 : i + 1 < 16 := by omega
      have := this h16
      simp [this]

theorem run_after (f : Nat → Bool) (j : Nat) (hj : f j = true) (h0 : ∀ i, i < j → f i = false) : ∀ i, i ≤ 15 → ∃ t, t ≤ i ∧ (run f (j + 1 + i)).getLsbD t = true
  | 0, _ => ⟨0, Nat.le_refl _, by rw [Nat.add_zero, run, run_zero f j h0, hj]; decide⟩
  | i + 1, hi => bstep_low _ _ i (by omega) (run_after f j hj h0 i (by omega))
theorem ne_of_bit {c : BitVec 16} (h : ∃ t, c.getLsbD t = true) : c ≠ 0#16 := by
  rintro rfl
  simp at h
theorem run_ne (f : Nat → Bool) (j : Nat) (hj : f j = true) (h0 : ∀ i, i < j → f i = false) (h1 : ∀ i, j + 16 ≤ i → f i = false) : ∀ n, j < n → run f n ≠ 0#16
  | 0, h => absurd h (by omega)
  | n + 1, h => by
    by_cases hs : n + 1 ≤ j + 16
    · obtain ⟨t, _, ht⟩ := run_after f j hj h0 (n - j) (by omega)
      rw [show j + 1 + (n - j) = n + 1 by omega] at ht
      exact ne_of_bit ⟨t, ht⟩
    · rw [run, h1 n (by omega)]
      exact bstep_ne _ (run_ne f j hj h0 h1 n (by omega))
theorem first_true (f : Nat → Bool) : ∀ n, (∃ j, j < n ∧ f j = true) → ∃ j, j < n ∧ f j = true ∧ ∀ i, i < j → f i = false
  | 0, ⟨j, hj, _⟩ => absurd hj (by omega)
  | n + 1, h => by
    by_cases hn : ∃ j, j < n ∧ f j = true
    · obtain ⟨j, hj, h2⟩ := first_true f n hn
      exact ⟨j, by omega, h2⟩
    · obtain ⟨j, hj, hf⟩ := h
      have hall : ∀ i, i < n → f i = false := fun i hi => by
        cases e : f i
        · rfl
        · exact absurd ⟨i, hi, e⟩ hn
      have : j = n := by
        by_cases hlt : j < n
        · rw [hall j hlt] at hf; cases hf
        · omega
      subst this
      exact ⟨j, hj, hf, hall⟩

/-- bits turned within sixteen that stand in a row are seen -/
theorem burst (d : List (BitVec 8)) (at' : Nat) (f : Nat → Bool) (hd : ∀ j, j < 8 * d.length → bitAt d j = f j) (h0 : ∀ j, j < at' → f j = false) (h1 : ∀ j, at' + 16 ≤ j → f j = false) (hex : ∃ j, j < 8 * d.length ∧ f j = true) : more 0#16 d ≠ 0#16 := by
  have e := run_bytes d d.length (Nat.le_refl _)
  rw [List.take_length] at e
  rw [← e, run_congr _ f _ hd]
  obtain ⟨j, hj, hf, hfirst⟩ := first_true f _ hex
  have hat : at' ≤ j := by
    by_cases h : j < at'
    · rw [h0 j h] at hf; cases hf
    · omega
  exact run_ne f j hf hfirst (fun i hi => h1 i (by omega)) _ hj

/-- which bits have been turned behind k rounds: the text d holds them, t tells whether there are any -/
def Turns (at' : Nat) (T : BitVec 16) (n k : Nat) (d : List (BitVec 8)) (t : Bool) : Prop :=
  d.length = n ∧ (∀ j, j < 8 * n → bitAt d j = (decide (at' ≤ j) && decide (j < at' + k) && T.getLsbD (j - at'))) ∧ (t = true ↔ ∃ i, i < k ∧ T.getLsbD i = true ∧ at' + i < 8 * n)

theorem Turns.start (at' : Nat) (T : BitVec 16) (n : Nat) : Turns at' T n 0 (List.replicate n 0#8) false := by
  refine ⟨by simp, fun j hj => ?_, by simp⟩
  have h : (List.replicate n 0#8).getD (j / 8) 0#8 = 0#8 := by
    simp only [List.getD, List.getElem?_replicate]
    split <;> rfl
  unfold bitAt
  rw [h]
  by_cases h1 : at' ≤ j
  · simp
    omega
  · simp [h1]
theorem Turns.skip {at' : Nat} {T : BitVec 16} {n k : Nat} {d : List (BitVec 8)} {t : Bool} (h : Turns at' T n k d t) (hs : T.getLsbD k = false ∨ ¬ at' + k < 8 * n) : Turns at' T n (k + 1) d t := by
  obtain ⟨h1, h2, h3⟩ := h
  refine ⟨h1, fun j hj => ?_, h3.trans ⟨fun ⟨i, hi, hb⟩ => ⟨i, by omega, hb⟩, fun ⟨i, hi, hb, hn⟩ => ?_⟩⟩
  · rw [h2 j hj]
    by_cases hjk : j = at' + k
    · rcases hs with hs | hs
      · subst hjk
        simp [hs]
      · omega
    · rw [show decide (j < at' + (k + 1)) = decide (j < at' + k) by by_cases hd : j < at' + k <;> simp [hd] <;> omega]
  · by_cases hik : i = k
    · subst hik
      rcases hs with hs | hs
      · rw [hs] at hb; cases hb
      · omega
    · exact ⟨i, by omega, hb, hn⟩
theorem mask_bit : ∀ r : Fin 8, ∀ q : Fin 8, (128#8 >>> r.val).getLsbD (7 - q.val) = decide (q = r) := by decide +kernel
theorem Turns.turn {at' : Nat} {T : BitVec 16} {n k : Nat} {d : List (BitVec 8)} {t : Bool} (h : Turns at' T n k d t) (hb : T.getLsbD k = true) (hn : at' + k < 8 * n) : Turns at' T n (k + 1) (d.set ((at' + k) / 8) (d.getD ((at' + k) / 8) 0#8 ^^^ (128#8 >>> ((at' + k) % 8)))) true := by
  obtain ⟨h1, h2, h3⟩ := h
  refine ⟨by simpa using h1, fun j hj => ?_, ⟨fun _ => ⟨k, by omega, hb, hn⟩, fun _ => rfl⟩⟩
  have h2j := h2 j hj
  unfold bitAt at h2j ⊢
  by_cases hp : j / 8 = (at' + k) / 8
  · rw [hp] at h2j ⊢
    have e : (d.set ((at' + k) / 8) (d.getD ((at' + k) / 8) 0#8 ^^^ (128#8 >>> ((at' + k) % 8)))).getD ((at' + k) / 8) 0#8 = d.getD ((at' + k) / 8) 0#8 ^^^ (128#8 >>> ((at' + k) % 8)) := by
      simp [List.getD, show (at' + k) / 8 < d.length by omega]
    rw [e, BitVec.getLsbD_xor, h2j]
    have hm := mask_bit ⟨(at' + k) % 8, by omega⟩ ⟨j % 8, by omega⟩
    simp only [Fin.mk.injEq] at hm
    rw [hm]
    by_cases hjk : j = at' + k
    · subst hjk
      simp [hb]
    · rw [show decide (j % 8 = (at' + k) % 8) = false by simp; omega, show decide (j < at' + (k + 1)) = decide (j < at' + k) by by_cases hd : j < at' + k <;> simp [hd] <;> omega]
      simp
  · have e : (d.set ((at' + k) / 8) (d.getD ((at' + k) / 8) 0#8 ^^^ (128#8 >>> ((at' + k) % 8)))).getD (j / 8) 0#8 = d.getD (j / 8) 0#8 := by
      simp only [List.getD]
      rw [List.getElem?_set_ne (by omega)]
    rw [e, h2j, show decide (j < at' + (k + 1)) = decide (j < at' + k) by by_cases hd : j < at' + k <;> simp [hd] <;> omega]

theorem Turns.seen {at' : Nat} {T : BitVec 16} {n : Nat} {d : List (BitVec 8)} {t : Bool} (h : Turns at' T n 16 d t) (ht : t = true) : more 0#16 d ≠ 0#16 := by
  obtain ⟨h1, h2, h3⟩ := h
  obtain ⟨i, hi, hb, hn⟩ := h3.1 ht
  refine burst d at' (fun j => decide (at' ≤ j) && decide (j < at' + 16) && T.getLsbD (j - at')) (fun j hj => h2 j (by omega)) (fun j hj => ?_) (fun j hj => ?_) ⟨at' + i, by omega, ?_⟩
  · simp [show ¬ at' ≤ j by omega]
  · simp [show ¬ j < at' + 16 by omega]
  · simp [hb, show at' + i < at' + 16 by omega]

/-- a text with those bits turned has another sum -/
theorem Turns.other {at' : Nat} {T : BitVec 16} {l d : List (BitVec 8)} {t : Bool} (h : Turns at' T l.length 16 d t) (ht : t = true) : more 0#16 (List.zipWith (· ^^^ ·) l d) ≠ more 0#16 l := by
  have hx := more_xor l d h.1.symm 0#16 0#16
  rw [show (0#16 ^^^ 0#16) = 0#16 by decide] at hx
  rw [hx]
  intro e
  apply h.seen ht
  have := congrArg (fun z => more 0#16 l ^^^ z) e
  simpa [← BitVec.xor_assoc] using this
theorem zip_zero (l : List (BitVec 8)) : List.zipWith (· ^^^ ·) l (List.replicate l.length 0#8) = l := by
  induction l with
  | nil => rfl
  | cons x l ih => simp [List.replicate_succ, ih]
theorem zip_set (l d : List (BitVec 8)) (p : Nat) (m : BitVec 8) (hl : d.length = l.length) (hp : p < l.length) : (List.zipWith (· ^^^ ·) l d).set p ((List.zipWith (· ^^^ ·) l d).getD p 0#8 ^^^ m) = List.zipWith (· ^^^ ·) l (d.set p (d.getD p 0#8 ^^^ m)) := by
  have hd : p < d.length := by omega
  have hz : (List.zipWith (· ^^^ ·) l d).getD p 0#8 = l[p] ^^^ d[p] := by
    rw [List.getD_eq_getElem?_getD, List.getElem?_eq_getElem (by simp; omega)]
    simp
  have hdd : d.getD p 0#8 = d[p] := by simp [List.getD, hd]
  rw [hz, hdd]
  apply List.ext_getElem
  · simp
  · intro i h1 h2
    simp only [List.getElem_set, List.getElem_zipWith]
    by_cases hi : p = i
    · subst hi
      simp [BitVec.xor_assoc]
    · simp [hi]

end Go.Proofs.YtgpdbcigogkkbaaDoor.Crc
