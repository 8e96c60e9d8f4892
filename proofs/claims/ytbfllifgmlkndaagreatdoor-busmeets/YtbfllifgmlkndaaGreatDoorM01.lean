/- Sets. -/
import Derived.Test.YtbfllifgmlkndaaGreatDoorProg
namespace Go.Proofs.YtbfllifgmlkndaaGreatDoor
namespace Slot

/-- the number whose bits below n are f's -/
def num (f : Nat → Bool) : Nat → Nat
  | 0 => 0
  | n + 1 => num f n + if f n then 2 ^ n else 0
theorem num_lt (f : Nat → Bool) (n : Nat) : num f n < 2 ^ n := by
  induction n with
  | zero => simp [num]
  | succ n ih =>
    unfold num
    rw [Nat.pow_succ]
    split <;> omega
theorem testBit_num (f : Nat → Bool) (n k : Nat) : (num f n).testBit k = (decide (k < n) && f k) := by
  induction n with
  | zero => simp [num]
  | succ n ih =>
    have hl := num_lt f n
    unfold num
    by_cases hf : f n = true
    · rw [if_pos hf, Nat.add_comm]
      rcases Nat.lt_trichotomy k n with h | h | h
      · rw [Nat.testBit_two_pow_add_gt h, ih]
        simp [h, Nat.lt_succ_of_lt h]
      · subst h
        rw [Nat.testBit_two_pow_add_eq, Nat.testBit_lt_two_pow hl]
        simp [hf]
      · rw [Nat.testBit_lt_two_pow]
        · simp; omega
        · refine Nat.lt_of_lt_of_le (m := 2 ^ (n + 1)) ?_ (Nat.pow_le_pow_right (by decide) (by omega))
          rw [Nat.pow_succ]; omega
    · rw [if_neg hf, Nat.add_zero, ih]
      by_cases e : k = n
      · subst e; simp [Bool.eq_false_iff.2 hf]
      · have : decide (k < n + 1) = decide (k < n) := by
          by_cases h : k < n
          · simp [h]; omega
          · simp [h]; omega
        rw [this]
theorem num_congr {f g : Nat → Bool} {n : Nat} (h : ∀ k, k < n → f k = g k) : num f n = num g n := by
  induction n with
  | zero => rfl
  | succ n ih =>
    unfold num
    rw [ih (fun k hk => h k (by omega)), h n (by omega)]
theorem num_or (f g : Nat → Bool) (n : Nat) : num f n ||| num g n = num (fun k => f k || g k) n := by
  refine Nat.eq_of_testBit_eq fun i => ?_
  simp [testBit_num, Nat.testBit_or]
  cases decide (i < n) <;> simp
theorem num_and (f g : Nat → Bool) (n : Nat) : num f n &&& num g n = num (fun k => f k && g k) n := by
  refine Nat.eq_of_testBit_eq fun i => ?_
  simp [testBit_num, Nat.testBit_and]
  cases decide (i < n) <;> simp
theorem num_zero_iff (f : Nat → Bool) (n : Nat) : num f n = 0 ↔ ∀ k, k < n → f k = false := by
  constructor
  · intro h k hk
    have := congrArg (fun x => Nat.testBit x k) h
    simpa [testBit_num, hk] using this
  · intro h
    refine Nat.eq_of_testBit_eq fun i => ?_
    simp only [testBit_num, Nat.zero_testBit]
    by_cases hi : i < n
    · simp [h i hi]
    · simp [hi]
theorem num_set {f : Nat → Bool} {n k : Nat} (hk : k < n) (hf : f k = false) : num (fun j => if j = k then true else f j) n = num f n + 2 ^ k := by
  induction n with
  | zero => omega
  | succ n ih =>
    by_cases e : k = n
    · subst e
      have h : num (fun j => if j = k then true else f j) k = num f k := num_congr fun j hj => by simp; omega
      simp only [num, h, hf, if_true]
      simp
    · have := ih (by omega)
      have hn : n ≠ k := fun h => e h.symm
      simp only [num, this, if_neg hn]
      omega
theorem num_clear {f : Nat → Bool} {n k : Nat} (hk : k < n) (hf : f k = true) : num (fun j => if j = k then false else f j) n + 2 ^ k = num f n := by
  have := num_set (f := fun j => if j = k then false else f j) (n := n) (k := k) hk (by simp)
  rw [← this]
  refine num_congr fun j _ => ?_
  by_cases e : j = k <;> simp [e, hf]

/-- how many slots there are -/
abbrev top : Nat := 16384
/-- the word i of a set -/
def word (S : Nat → Bool) (i : Nat) : Nat := num (fun k => S (64 * i + k)) 64
theorem word_lt (S : Nat → Bool) (i : Nat) : word S i < 18446744073709551616 := num_lt _ 64
theorem word_bit (S : Nat → Bool) (n : Nat) : (word S (n / 64)).testBit (n % 64) = S n := by
  unfold word
  rw [testBit_num]
  have h : n % 64 < 64 := Nat.mod_lt _ (by decide)
  have e : 64 * (n / 64) + n % 64 = n := by omega
  simp [h, e]
theorem word_congr {S T : Nat → Bool} {i : Nat} (h : ∀ k, k < 64 → S (64 * i + k) = T (64 * i + k)) : word S i = word T i := num_congr h
theorem word_inj {S T : Nat → Bool} (h : ∀ i, i < 256 → word S i = word T i) : ∀ n, n < top → S n = T n := fun n hn => by
  rw [← word_bit S n, ← word_bit T n, h (n / 64) (by unfold top at hn; omega)]
theorem word_none (i : Nat) : word (fun _ => false) i = 0 := (num_zero_iff _ _).2 fun _ _ => rfl
/-- from f to t: on or off -/
def put (S : Nat → Bool) (f t : Nat) (on : Bool) : Nat → Bool := fun n => if f ≤ n ∧ n ≤ t then on else S n
/-- the bits of the word i that f to t covers -/
def mask (f t i : Nat) : Nat := num (fun k => decide (f ≤ 64 * i + k ∧ 64 * i + k ≤ t)) 64
theorem word_on (S : Nat → Bool) (f t i : Nat) : word S i ||| mask f t i = word (put S f t true) i := by
  unfold word mask put
  rw [num_or]
  refine num_congr fun k _ => ?_
  by_cases h : f ≤ 64 * i + k ∧ 64 * i + k ≤ t <;> simp [h]
theorem put_out {S : Nat → Bool} {f t i : Nat} {on : Bool} (h : i < f / 64 ∨ t / 64 < i) : word (put S f t on) i = word S i := by
  refine word_congr fun k hk => ?_
  unfold put
  rw [if_neg (by omega)]
theorem high_num (low : Nat) : 18446744073709551615 * 2 ^ low % 18446744073709551616 = num (fun k => decide (low ≤ k)) 64 := by
  refine Nat.eq_of_testBit_eq fun k => ?_
  rw [show (18446744073709551616 : Nat) = 2 ^ 64 from rfl, Nat.testBit_mod_two_pow, ← Nat.shiftLeft_eq, Nat.testBit_shiftLeft, show (18446744073709551615 : Nat) = 2 ^ 64 - 1 from rfl, Nat.testBit_two_pow_sub_one, testBit_num]
  by_cases h : k < 64
  · by_cases g : low ≤ k
    · simp [h, g]; omega
    · simp [g]
  · simp [h]
theorem low_num (s : Nat) : 18446744073709551615 / 2 ^ s = num (fun k => decide (k + s < 64)) 64 := by
  refine Nat.eq_of_testBit_eq fun k => ?_
  rw [← Nat.shiftRight_eq_div_pow, Nat.testBit_shiftRight, show (18446744073709551615 : Nat) = 2 ^ 64 - 1 from rfl, Nat.testBit_two_pow_sub_one, testBit_num]
  by_cases h : k + s < 64
  · have : s + k < 64 := by omega
    have : k < 64 := by omega
    simp [*]
  · have : ¬ s + k < 64 := by omega
    simp [h]; omega
theorem mask_eq {f t i low high : Nat} (h1 : low = f - 64 * i) (h2 : high = min (t - 64 * i) 63) (h3 : 64 * i ≤ t) :
    (18446744073709551615 * 2 ^ low % 18446744073709551616) &&& (18446744073709551615 / 2 ^ (63 - high)) = mask f t i := by
  rw [high_num, low_num, num_and]
  unfold mask
  refine num_congr fun k hk => ?_
  rw [Bool.eq_iff_iff]
  simp only [Bool.and_eq_true, decide_eq_true_eq]
  omega
theorem mask_lt (f t i : Nat) : mask f t i < 18446744073709551616 := num_lt _ 64
theorem not_num (g : Nat → Bool) : 18446744073709551615 - num g 64 = num (fun k => !g k) 64 := by
  have h : ∀ n, num g n + num (fun k => !g k) n = 2 ^ n - 1 := fun n => by
    induction n with
    | zero => simp [num]
    | succ n ih =>
      have hp : 0 < 2 ^ n := Nat.pow_pos (by decide)
      unfold num
      rw [Nat.pow_succ]
      cases g n <;> simp <;> omega
  have := h 64
  omega
theorem word_clear (S : Nat → Bool) (f t i : Nat) : word S i &&& (18446744073709551615 - mask f t i) = word (put S f t false) i := by
  unfold word mask put
  rw [not_num, num_and]
  refine num_congr fun k _ => ?_
  by_cases h : f ≤ 64 * i + k ∧ 64 * i + k ≤ t <;> simp [h]
theorem bit_and (x : Nat) (k : Nat) : (x / 2 ^ k) &&& 1 = if x.testBit k then 1 else 0 := by
  rw [Nat.testBit_eq_decide_div_mod_eq, Nat.and_one_is_mod]
  have : x / 2 ^ k % 2 < 2 := Nat.mod_lt _ (by decide)
  by_cases h : x / 2 ^ k % 2 = 1
  · simp [h]
  · simp [h]; omega

/-- from m on l is the row of ranges of S, as few as may be -/
def Runs (S : Nat → Bool) : Nat → List (Nat × Nat) → Prop
  | m, [] => ∀ n, m ≤ n → n < top → S n = false
  | m, (f, t) :: l => m ≤ f ∧ f ≤ t ∧ t < top ∧ (∀ n, m ≤ n → n < f → S n = false) ∧ (∀ n, f ≤ n → n ≤ t → S n = true) ∧ (t + 1 < top → S (t + 1) = false) ∧ Runs S (t + 1) l
theorem Runs.unique {S : Nat → Bool} : ∀ {l k : List (Nat × Nat)} {m : Nat}, Runs S m l → Runs S m k → l = k
  | [], [], _, _, _ => rfl
  | [], (f, t) :: _, m, h, ⟨h1, h2, h3, _, h5, _⟩ => by
    have a := h f h1 (by omega)
    have b := h5 f (Nat.le_refl _) h2
    rw [a] at b; cases b
  | (f, t) :: _, [], m, ⟨h1, h2, h3, _, h5, _⟩, h => by
    have a := h f h1 (by omega)
    have b := h5 f (Nat.le_refl _) h2
    rw [a] at b; cases b
  | (f, t) :: l, (f', t') :: k, m, ⟨h1, h2, h3, h4, h5, h6, h7⟩, ⟨g1, g2, g3, g4, g5, g6, g7⟩ => by
    have ef : f = f' := by
      rcases Nat.lt_trichotomy f f' with h | h | h
      · have a := g4 f h1 h
        have b := h5 f (Nat.le_refl _) h2
        rw [a] at b; cases b
      · exact h
      · have a := h4 f' g1 h
        have b := g5 f' (Nat.le_refl _) g2
        rw [a] at b; cases b
    subst ef
    have et : t = t' := by
      rcases Nat.lt_trichotomy t t' with h | h | h
      · have a := h6 (by omega)
        have b := g5 (t + 1) (by omega) (by omega)
        rw [a] at b; cases b
      · exact h
      · have a := g6 (by omega)
        have b := h5 (t' + 1) (by omega) (by omega)
        rw [a] at b; cases b
    subst et
    rw [Runs.unique h7 g7]
theorem Runs.congr {S T : Nat → Bool} : ∀ {l : List (Nat × Nat)} {m : Nat}, (∀ n, m ≤ n → n < top → S n = T n) → Runs S m l → Runs T m l
  | [], m, h, g => fun n h1 h2 => by rw [← h n h1 h2]; exact g n h1 h2
  | (f, t) :: l, m, h, ⟨h1, h2, h3, h4, h5, h6, h7⟩ =>
    ⟨h1, h2, h3, fun n a b => by rw [← h n a (by omega)]; exact h4 n a b, fun n a b => by rw [← h n (by omega) (by omega)]; exact h5 n a b,
      fun a => by rw [← h _ (by omega) a]; exact h6 a, Runs.congr (fun n a b => h n (by omega) b) h7⟩
theorem Runs.length {S : Nat → Bool} : ∀ {l : List (Nat × Nat)} {m : Nat}, m ≤ top → Runs S m l → l.length ≤ top - m
  | [], _, _, _ => Nat.zero_le _
  | (f, t) :: l, m, hm, ⟨h1, h2, h3, _, _, _, h7⟩ => by
    have := Runs.length (l := l) (m := t + 1) (by omega) h7
    simp only [List.length_cons]
    omega
theorem Runs.valid {S : Nat → Bool} : ∀ {l : List (Nat × Nat)} {m : Nat}, Runs S m l → ∀ p ∈ l, p.1 ≤ p.2 ∧ p.2 < top
  | [], _, _, _, hp => by cases hp
  | (f, t) :: l, m, ⟨_, h2, h3, _, _, _, h7⟩, p, hp => by
    rcases List.mem_cons.1 hp with rfl | hp
    · exact ⟨h2, h3⟩
    · exact Runs.valid h7 p hp
/-- one range more -/
theorem Runs.step {S : Nat → Bool} {m f t : Nat} {l : List (Nat × Nat)} (h1 : m ≤ f) (h2 : f ≤ t) (h3 : t < top) (h4 : ∀ n, m ≤ n → n < f → S n = false) (h5 : ∀ n, f ≤ n → n ≤ t → S n = true) (h6 : t + 1 < top → S (t + 1) = false) (h7 : Runs S (t + 1) l) : Runs S m ((f, t) :: l) := ⟨h1, h2, h3, h4, h5, h6, h7⟩

/-- all slots of all ranges -/
def ofList (l : List (Nat × Nat)) : Nat → Bool := fun n => l.any fun p => decide (p.1 ≤ n ∧ n ≤ p.2)
theorem ofList_snoc (l : List (Nat × Nat)) (f t : Nat) : ofList (l ++ [(f, t)]) = put (ofList l) f t true := by
  funext n
  simp only [ofList, put, List.any_append, List.any_cons, List.any_nil, Bool.or_false]
  by_cases h : f ≤ n ∧ n ≤ t <;> simp [h]
theorem Runs.ofList {S : Nat → Bool} : ∀ {l : List (Nat × Nat)} {m : Nat}, Runs S m l → ∀ n, m ≤ n → n < top → Slot.ofList l n = S n
  | [], m, h, n, a, b => by rw [h n a b]; rfl
  | (f, t) :: l, m, ⟨h1, h2, h3, h4, h5, h6, h7⟩, n, a, b => by
    have ih := Runs.ofList h7 n
    simp only [Slot.ofList, List.any_cons] at ih ⊢
    by_cases c : f ≤ n ∧ n ≤ t
    · simp [c, h5 n c.1 c.2]
    · by_cases d : t + 1 ≤ n
      · rw [ih d b]; simp [c]
      · have e : n < f := by omega
        rw [h4 n a e]
        have e2 : (l.any fun p => decide (p.1 ≤ n ∧ n ≤ p.2)) = false := by
          rw [List.any_eq_false]
          intro p hp
          have := Runs.least h7 p hp
          simp; omega
        rw [e2]
        simp [c]
where
  Runs.least {S : Nat → Bool} : ∀ {l : List (Nat × Nat)} {m : Nat}, Runs S m l → ∀ p ∈ l, m ≤ p.1
    | [], _, _, _, hp => by cases hp
    | (f, t) :: l, m, ⟨h1, h2, _, _, _, _, h7⟩, p, hp => by
      rcases List.mem_cons.1 hp with rfl | hp
      · exact h1
      · have := Runs.least h7 p hp
        omega

end Slot
end Go.Proofs.YtbfllifgmlkndaaGreatDoor
