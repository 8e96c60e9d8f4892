/- Sets, Text, CrcBits, PkModel. -/
import Derived.Test.YtdicjnkbmlamgabProg
import Derived.Lib.ItoaNum
import Derived.Lib.ItoaMem
import Derived.Lib.AtoiAll
import Derived.Lib.CutLaws
namespace Go.Proofs.Ytdicjnkbmlamgab
namespace Slot

/-- the number whose bits below n are f's -/
def num (f : Nat → Bool) : Nat → Nat
  | 0 => 0
  | n + 1 => num f n + if f n then 2 ^ n else 0
theorem num_lt (f : Nat → Bool) (n : Nat) : num f n < 2 ^ n := by
  induction n with
  | zero => simp [num]
  | succ n ih =>
    unfold num
    rw [Nat.pow_succ]
    split <;> omega
theorem testBit_num (f : Nat → Bool) (n k : Nat) : (num f n).testBit k = (decide (k < n) && f k) := by
  induction n with
  | zero => simp [num]
  | succ n ih =>
    have hl := num_lt f n
    unfold num
    by_cases hf : f n = true
    · rw [if_pos hf, Nat.add_comm]
      rcases Nat.lt_trichotomy k n with h | h | h
      · rw [Nat.testBit_two_pow_add_gt h, ih]
        simp [h, Nat.lt_succ_of_lt h]
      · subst h
        rw [Nat.testBit_two_pow_add_eq, Nat.testBit_lt_two_pow hl]
        simp [hf]
      · rw [Nat.testBit_lt_two_pow]
        · simp; omega
        · refine Nat.lt_of_lt_of_le (m := 2 ^ (n + 1)) ?_ (Nat.pow_le_pow_right (by decide) (by omega))
          rw [Nat.pow_succ]; omega
    · rw [if_neg hf, Nat.add_zero, ih]
      by_cases e : k = n
      · subst e; simp [Bool.eq_false_iff.2 hf]
      · have : decide (k < n + 1) = decide (k < n) := by
          by_cases h : k < n
          · simp [h]; omega
          · simp [h]; omega
        rw [this]
theorem num_congr {f g : Nat → Bool} {n : Nat} (h : ∀ k, k < n → f k = g k) : num f n = num g n := by
  induction n with
  | zero => rfl
  | succ n ih =>
    unfold num
    rw [ih (fun k hk => h k (by omega)), h n (by omega)]
theorem num_inj {f g : Nat → Bool} {n : Nat} (h : num f n = num g n) : ∀ k, k < n → f k = g k := fun k hk => by
  have := congrArg (fun x => Nat.testBit x k) h
  simpa [testBit_num, hk] using this
theorem eq_num {x n : Nat} (h : x < 2 ^ n) : x = num (fun k => x.testBit k) n := by
  refine Nat.eq_of_testBit_eq fun i => ?_
  rw [testBit_num]
  by_cases hi : i < n
  · simp [hi]
  · simp [hi, Nat.testBit_lt_two_pow (Nat.lt_of_lt_of_le h (Nat.pow_le_pow_right (by decide) (Nat.le_of_not_lt hi)))]
theorem num_or (f g : Nat → Bool) (n : Nat) : num f n ||| num g n = num (fun k => f k || g k) n := by
  refine Nat.eq_of_testBit_eq fun i => ?_
  simp [testBit_num, Nat.testBit_or]
  cases decide (i < n) <;> simp
theorem num_and (f g : Nat → Bool) (n : Nat) : num f n &&& num g n = num (fun k => f k && g k) n := by
  refine Nat.eq_of_testBit_eq fun i => ?_
  simp [testBit_num, Nat.testBit_and]
  cases decide (i < n) <;> simp
theorem num_zero_iff (f : Nat → Bool) (n : Nat) : num f n = 0 ↔ ∀ k, k < n → f k = false := by
  constructor
  · intro h k hk
    have := congrArg (fun x => Nat.testBit x k) h
    simpa [testBit_num, hk] using this
  · intro h
    refine Nat.eq_of_testBit_eq fun i => ?_
    simp only [testBit_num, Nat.zero_testBit]
    by_cases hi : i < n
    · simp [h i hi]
    · simp [hi]
theorem num_set {f : Nat → Bool} {n k : Nat} (hk : k < n) (hf : f k = false) : num (fun j => if j = k then true else f j) n = num f n + 2 ^ k := by
  induction n with
  | zero => omega
  | succ n ih =>
    by_cases e : k = n
    · subst e
      have h : num (fun j => if j = k then true else f j) k = num f k := num_congr fun j hj => by simp; omega
      simp only [num, h, hf, if_true]
      simp
    · have := ih (by omega)
      have hn : n ≠ k := fun h => e h.symm
      simp only [num, this, if_neg hn]
      omega
theorem num_clear {f : Nat → Bool} {n k : Nat} (hk : k < n) (hf : f k = true) : num (fun j => if j = k then false else f j) n + 2 ^ k = num f n := by
  have := num_set (f := fun j => if j = k then false else f j) (n := n) (k := k) hk (by simp)
  rw [← this]
  refine num_congr fun j _ => ?_
  by_cases e : j = k <;> simp [e, hf]

/-- how many slots there are -/
abbrev top : Nat := 16384
/-- the word i of a set -/
def word (S : Nat → Bool) (i : Nat) : Nat := num (fun k => S (64 * i + k)) 64
theorem word_lt (S : Nat → Bool) (i : Nat) : word S i < 18446744073709551616 := num_lt _ 64
theorem word_bit (S : Nat → Bool) (n : Nat) : (word S (n / 64)).testBit (n % 64) = S n := by
  unfold word
  rw [testBit_num]
  have h : n % 64 < 64 := Nat.mod_lt _ (by decide)
  have e : 64 * (n / 64) + n % 64 = n := by omega
  simp [h, e]
theorem word_congr {S T : Nat → Bool} {i : Nat} (h : ∀ k, k < 64 → S (64 * i + k) = T (64 * i + k)) : word S i = word T i := num_congr h
theorem word_inj {S T : Nat → Bool} (h : ∀ i, i < 256 → word S i = word T i) : ∀ n, n < top → S n = T n := fun n hn => by
  rw [← word_bit S n, ← word_bit T n, h (n / 64) (by unfold top at hn; omega)]
theorem word_none (i : Nat) : word (fun _ => false) i = 0 := (num_zero_iff _ _).2 fun _ _ => rfl
theorem words_none {S : Nat → Bool} : (∀ i, i < 256 → word S i = 0) ↔ ∀ n, n < top → S n = false := by
  constructor
  · intro h
    have := word_inj (S := S) (T := fun _ => false) fun i hi => by rw [h i hi, word_none]
    exact this
  · intro h i hi
    refine (num_zero_iff _ _).2 fun k hk => h _ (by unfold top; omega)
/-- the set that words tell -/
def ofWords (z : Nat → Nat) : Nat → Bool := fun n => (z (n / 64)).testBit (n % 64)
theorem word_ofWords {z : Nat → Nat} {i : Nat} (h : z i < 18446744073709551616) : word (ofWords z) i = z i := by
  unfold word ofWords
  have e : ∀ k, k < 64 → (z ((64 * i + k) / 64)).testBit ((64 * i + k) % 64) = (z i).testBit k := fun k hk => by
    rw [show (64 * i + k) / 64 = i by omega, show (64 * i + k) % 64 = k by omega]
  rw [num_congr e]
  exact (eq_num (n := 64) h).symm

/-- from f to t: on or off -/
def put (S : Nat → Bool) (f t : Nat) (on : Bool) : Nat → Bool := fun n => if f ≤ n ∧ n ≤ t then on else S n
/-- the bits of the word i that f to t covers -/
def mask (f t i : Nat) : Nat := num (fun k => decide (f ≤ 64 * i + k ∧ 64 * i + k ≤ t)) 64
theorem word_on (S : Nat → Bool) (f t i : Nat) : word S i ||| mask f t i = word (put S f t true) i := by
  unfold word mask put
  rw [num_or]
  refine num_congr fun k _ => ?_
  by_cases h : f ≤ 64 * i + k ∧ 64 * i + k ≤ t <;> simp [h]
theorem put_out {S : Nat → Bool} {f t i : Nat} {on : Bool} (h : i < f / 64 ∨ t / 64 < i) : word (put S f t on) i = word S i := by
  refine word_congr fun k hk => ?_
  unfold put
  rw [if_neg (by omega)]
theorem put_congr {S T : Nat → Bool} {f t : Nat} {on : Bool} (h : ∀ n, n < top → S n = T n) : ∀ n, n < top → put S f t on n = put T f t on n := fun n hn => by
  unfold put
  rw [h n hn]

theorem high_num (low : Nat) : 18446744073709551615 * 2 ^ low % 18446744073709551616 = num (fun k => decide (low ≤ k)) 64 := by
  refine Nat.eq_of_testBit_eq fun k => ?_
  rw [show (18446744073709551616 : Nat) = 2 ^ 64 from rfl, Nat.testBit_mod_two_pow, ← Nat.shiftLeft_eq, Nat.testBit_shiftLeft, show (18446744073709551615 : Nat) = 2 ^ 64 - 1 from rfl, Nat.testBit_two_pow_sub_one, testBit_num]
  by_cases h : k < 64
  · by_cases g : low ≤ k
    · simp [h, g]; omega
    · simp [g]
  · simp [h]
theorem low_num (s : Nat) : 18446744073709551615 / 2 ^ s = num (fun k => decide (k + s < 64)) 64 := by
  refine Nat.eq_of_testBit_eq fun k => ?_
  rw [← Nat.shiftRight_eq_div_pow, Nat.testBit_shiftRight, show (18446744073709551615 : Nat) = 2 ^ 64 - 1 from rfl, Nat.testBit_two_pow_sub_one, testBit_num]
  by_cases h : k + s < 64
  · have : s + k < 64 := by omega
    have : k < 64 := by omega
    simp [*]
  · have : ¬ s + k < 64 := by omega
    simp [h]; omega
theorem mask_eq {f t i low high : Nat} (h1 : low = f - 64 * i) (h2 : high = min (t - 64 * i) 63) (h3 : 64 * i ≤ t) :
    (18446744073709551615 * 2 ^ low % 18446744073709551616) &&& (18446744073709551615 / 2 ^ (63 - high)) = mask f t i := by
  rw [high_num, low_num, num_and]
  unfold mask
  refine num_congr fun k hk => ?_
  rw [Bool.eq_iff_iff]
  simp only [Bool.and_eq_true, decide_eq_true_eq]
  omega
theorem mask_lt (f t i : Nat) : mask f t i < 18446744073709551616 := num_lt _ 64
theorem not_num (g : Nat → Bool) : 18446744073709551615 - num g 64 = num (fun k => !g k) 64 := by
  have h : ∀ n, num g n + num (fun k => !g k) n = 2 ^ n - 1 := fun n => by
    induction n with
    | zero => simp [num]
    | succ n ih =>
      have hp : 0 < 2 ^ n := Nat.pow_pos (by decide)
      unfold num
      rw [Nat.pow_succ]
      cases g n <;> simp <;> omega
  have := h 64
  omega
theorem word_clear (S : Nat → Bool) (f t i : Nat) : word S i &&& (18446744073709551615 - mask f t i) = word (put S f t false) i := by
  unfold word mask put
  rw [not_num, num_and]
  refine num_congr fun k _ => ?_
  by_cases h : f ≤ 64 * i + k ∧ 64 * i + k ≤ t <;> simp [h]
theorem bit_and (x : Nat) (k : Nat) : (x / 2 ^ k) &&& 1 = if x.testBit k then 1 else 0 := by
  rw [Nat.testBit_eq_decide_div_mod_eq, Nat.and_one_is_mod]
  have : x / 2 ^ k % 2 < 2 := Nat.mod_lt _ (by decide)
  by_cases h : x / 2 ^ k % 2 = 1
  · simp [h]
  · simp [h]; omega

/-- from m on l is the row of ranges of S, as few as may be -/
def Runs (S : Nat → Bool) : Nat → List (Nat × Nat) → Prop
  | m, [] => ∀ n, m ≤ n → n < top → S n = false
  | m, (f, t) :: l => m ≤ f ∧ f ≤ t ∧ t < top ∧ (∀ n, m ≤ n → n < f → S n = false) ∧ (∀ n, f ≤ n → n ≤ t → S n = true) ∧ (t + 1 < top → S (t + 1) = false) ∧ Runs S (t + 1) l
theorem Runs.unique {S : Nat → Bool} : ∀ {l k : List (Nat × Nat)} {m : Nat}, Runs S m l → Runs S m k → l = k
  | [], [], _, _, _ => rfl
  | [], (f, t) :: _, m, h, ⟨h1, h2, h3, _, h5, _⟩ => by
    have a := h f h1 (by omega)
    have b := h5 f (Nat.le_refl _) h2
    rw [a] at b; cases b
  | (f, t) :: _, [], m, ⟨h1, h2, h3, _, h5, _⟩, h => by
    have a := h f h1 (by omega)
    have b := h5 f (Nat.le_refl _) h2
    rw [a] at b; cases b
  | (f, t) :: l, (f', t') :: k, m, ⟨h1, h2, h3, h4, h5, h6, h7⟩, ⟨g1, g2, g3, g4, g5, g6, g7⟩ => by
    have ef : f = f' := by
      rcases Nat.lt_trichotomy f f' with h | h | h
      · have a := g4 f h1 h
        have b := h5 f (Nat.le_refl _) h2
        rw [a] at b; cases b
      · exact h
      · have a := h4 f' g1 h
        have b := g5 f' (Nat.le_refl _) g2
        rw [a] at b; cases b
    subst ef
    have et : t = t' := by
      rcases Nat.lt_trichotomy t t' with h | h | h
      · have a := h6 (by omega)
        have b := g5 (t + 1) (by omega) (by omega)
        rw [a] at b; cases b
      · exact h
      · have a := g6 (by omega)
        have b := h5 (t' + 1) (by omega) (by omega)
        rw [a] at b; cases b
    subst et
    rw [Runs.unique h7 g7]
theorem Runs.congr {S T : Nat → Bool} : ∀ {l : List (Nat × Nat)} {m : Nat}, (∀ n, m ≤ n → n < top → S n = T n) → Runs S m l → Runs T m l
  | [], m, h, g => fun n h1 h2 => by rw [← h n h1 h2]; exact g n h1 h2
  | (f, t) :: l, m, h, ⟨h1, h2, h3, h4, h5, h6, h7⟩ =>
    ⟨h1, h2, h3, fun n a b => by rw [← h n a (by omega)]; exact h4 n a b, fun n a b => by rw [← h n (by omega) (by omega)]; exact h5 n a b,
      fun a => by rw [← h _ (by omega) a]; exact h6 a, Runs.congr (fun n a b => h n (by omega) b) h7⟩
theorem Runs.length {S : Nat → Bool} : ∀ {l : List (Nat × Nat)} {m : Nat}, m ≤ top → Runs S m l → l.length ≤ top - m
  | [], _, _, _ => Nat.zero_le _
  | (f, t) :: l, m, hm, ⟨h1, h2, h3, _, _, _, h7⟩ => by
    have := Runs.length (l := l) (m := t + 1) (by omega) h7
    simp only [List.length_cons]
    omega
theorem Runs.valid {S : Nat → Bool} : ∀ {l : List (Nat × Nat)} {m : Nat}, Runs S m l → ∀ p ∈ l, p.1 ≤ p.2 ∧ p.2 < top
  | [], _, _, _, hp => by cases hp
  | (f, t) :: l, m, ⟨_, h2, h3, _, _, _, h7⟩, p, hp => by
    rcases List.mem_cons.1 hp with rfl | hp
    · exact ⟨h2, h3⟩
    · exact Runs.valid h7 p hp
/-- one range more -/
theorem Runs.step {S : Nat → Bool} {m f t : Nat} {l : List (Nat × Nat)} (h1 : m ≤ f) (h2 : f ≤ t) (h3 : t < top) (h4 : ∀ n, m ≤ n → n < f → S n = false) (h5 : ∀ n, f ≤ n → n ≤ t → S n = true) (h6 : t + 1 < top → S (t + 1) = false) (h7 : Runs S (t + 1) l) : Runs S m ((f, t) :: l) := ⟨h1, h2, h3, h4, h5, h6, h7⟩

/-- all slots of all ranges -/
def ofList (l : List (Nat × Nat)) : Nat → Bool := fun n => l.any fun p => decide (p.1 ≤ n ∧ n ≤ p.2)
theorem ofList_snoc (l : List (Nat × Nat)) (f t : Nat) : ofList (l ++ [(f, t)]) = put (ofList l) f t true := by
  funext n
  simp only [ofList, put, List.any_append, List.any_cons, List.any_nil, Bool.or_false]
  by_cases h : f ≤ n ∧ n ≤ t <;> simp [h]
theorem ofList_append (l k : List (Nat × Nat)) (n : Nat) : ofList (l ++ k) n = (ofList l n || ofList k n) := by
  simp [ofList, List.any_append]
theorem Runs.ofList {S : Nat → Bool} : ∀ {l : List (Nat × Nat)} {m : Nat}, Runs S m l → ∀ n, m ≤ n → n < top → Slot.ofList l n = S n
  | [], m, h, n, a, b => by rw [h n a b]; rfl
  | (f, t) :: l, m, ⟨h1, h2, h3, h4, h5, h6, h7⟩, n, a, b => by
    have ih := Runs.ofList h7 n
    simp only [Slot.ofList, List.any_cons] at ih ⊢
    by_cases c : f ≤ n ∧ n ≤ t
    · simp [c, h5 n c.1 c.2]
    · by_cases d : t + 1 ≤ n
      · rw [ih d b]; simp [c]
      · have e : n < f := by omega
        rw [h4 n a e]
        have e2 : (l.any fun p => decide (p.1 ≤ n ∧ n ≤ p.2)) = false := by
          rw [List.any_eq_false]
          intro p hp
          have := Runs.least h7 p hp
          simp; omega
        rw [e2]
        simp [c]
where
  Runs.least {S : Nat → Bool} : ∀ {l : List (Nat × Nat)} {m : Nat}, Runs S m l → ∀ p ∈ l, m ≤ p.1
    | [], _, _, _, hp => by cases hp
    | (f, t) :: l, m, ⟨h1, h2, _, _, _, _, h7⟩, p, hp => by
      rcases List.mem_cons.1 hp with rfl | hp
      · exact h1
      · have := Runs.least h7 p hp
        omega

end Slot
end Go.Proofs.Ytdicjnkbmlamgab

namespace Go.Proofs.Ytdicjnkbmlamgab
namespace Slot

/-- around the first c -/
def cut (c : UInt8) : List UInt8 → List UInt8 × List UInt8 × Bool
  | [] => ([], [], false)
  | b :: l => if b = c then ([], l, true) else (b :: (cut c l).1, (cut c l).2.1, (cut c l).2.2)
theorem cut_hit {c : UInt8} : ∀ {p r : List UInt8}, c ∉ p → cut c (p ++ c :: r) = (p, r, true)
  | [], r, _ => by simp [cut]
  | b :: p, r, h => by
    have hb : ¬ b = c := fun e => h (by simp [e])
    have := cut_hit (c := c) (p := p) (r := r) (fun m => h (List.mem_cons_of_mem _ m))
    simp [cut, hb, this]
theorem cut_miss {c : UInt8} : ∀ {l : List UInt8}, c ∉ l → cut c l = (l, [], false)
  | [], _ => rfl
  | b :: l, h => by
    have hb : ¬ b = c := fun e => h (by simp [e])
    have := cut_miss (c := c) (l := l) (fun m => h (List.mem_cons_of_mem _ m))
    simp [cut, hb, this]
theorem cut_cases (c : UInt8) : ∀ l : List UInt8, (∃ p r, l = p ++ c :: r ∧ c ∉ p) ∨ c ∉ l
  | [] => Or.inr (by simp)
  | b :: l => by
    by_cases hb : b = c
    · subst hb; exact Or.inl ⟨[], l, rfl, by simp⟩
    · rcases cut_cases c l with ⟨p, r, rfl, h⟩ | h
      · exact Or.inl ⟨b :: p, r, rfl, by simp [h, Ne.symm hb]⟩
      · exact Or.inr (by simp [h, Ne.symm hb])
theorem cut_lib (c : UInt8) : ∀ l : List UInt8, Lib.cut l [c] = cut c l := fun l => by
  have key : ∀ l : List UInt8, (c ∉ l → Lib.index l [c] = -1) ∧ (∀ p r, l = p ++ c :: r → c ∉ p → Lib.index l [c] = p.length) := by
    intro l
    induction l with
    | nil => exact ⟨fun _ => rfl, fun p r h _ => by simp at h⟩
    | cons b l ih =>
      constructor
      · intro h
        have hb : ¬ c = b := fun e => h (by simp [e])
        have := ih.1 (fun m => h (List.mem_cons_of_mem _ m))
        simp [Lib.index, List.isPrefixOf, hb, this]
      · intro p r h hp
        cases p with
        | nil =>
          simp at h
          simp [Lib.index, List.isPrefixOf, h.1]
        | cons x p =>
          simp at h
          obtain ⟨rfl, h2⟩ := h
          have hb : ¬ c = b := fun e => hp (by simp [e])
          have := ih.2 p r h2 (fun m => hp (List.mem_cons_of_mem _ m))
          have ne : ¬ ((p.length : Int) = -1) := by omega
          simp [Lib.index, List.isPrefixOf, hb, this, ne]
  rcases cut_cases c l with ⟨p, r, rfl, h⟩ | h
  · rw [cut_hit h]
    unfold Lib.cut
    rw [(key _).2 p r rfl h, if_pos (by omega)]
    simp
  · rw [cut_miss h]
    unfold Lib.cut
    rw [(key _).1 h, if_neg (by omega)]

/-- what of a key counts -/
def tag (key : List UInt8) : List UInt8 :=
  if (cut 123 key).2.2 = false then key
  else if (cut 125 (cut 123 key).2.1).2.2 = false ∨ (cut 125 (cut 123 key).2.1).1 = [] then key
  else (cut 125 (cut 123 key).2.1).1
theorem tag_plain {key : List UInt8} (h : (123 : UInt8) ∉ key) : tag key = key := by
  unfold tag; rw [cut_miss h]; simp
theorem tag_open {a b : List UInt8} (h : (123 : UInt8) ∉ a) (h2 : (125 : UInt8) ∉ b) : tag (a ++ 123 :: b) = a ++ 123 :: b := by
  unfold tag; rw [cut_hit h]; simp [cut_miss h2]
theorem tag_empty {a r : List UInt8} (h : (123 : UInt8) ∉ a) : tag (a ++ 123 :: 125 :: r) = a ++ 123 :: 125 :: r := by
  unfold tag; rw [cut_hit h]; simp [cut]
theorem tag_in {a t r : List UInt8} (h : (123 : UInt8) ∉ a) (h2 : (125 : UInt8) ∉ t) (h3 : t ≠ []) : tag (a ++ 123 :: (t ++ 125 :: r)) = t := by
  unfold tag; rw [cut_hit h]; simp [cut_hit h2, h3]
theorem tag_cases (key : List UInt8) : tag key = key ∨ ((125 : UInt8) ∉ tag key) := by
  rcases cut_cases 123 key with ⟨a, b, rfl, h⟩ | h
  · rcases cut_cases 125 b with ⟨t, r, rfl, h2⟩ | h2
    · by_cases h3 : t = []
      · subst h3; exact Or.inl (tag_empty h)
      · right; rw [tag_in h h2 h3]; exact h2
    · exact Or.inl (tag_open h h2)
  · exact Or.inl (tag_plain h)
theorem tag_noclose {key : List UInt8} (h : (125 : UInt8) ∉ key) : tag key = key := by
  rcases cut_cases 123 key with ⟨a, b, rfl, h1⟩ | h1
  · exact tag_open h1 fun m => h (by simp [m])
  · exact tag_plain h1
theorem tag_tag (key : List UInt8) : tag (tag key) = tag key := by
  rcases tag_cases key with h | h
  · rw [h, h]
  · exact tag_noclose h
theorem tag_length (key : List UInt8) : (tag key).length ≤ key.length := by
  rcases cut_cases 123 key with ⟨a, b, rfl, h⟩ | h
  · rcases cut_cases 125 b with ⟨t, r, rfl, h2⟩ | h2
    · by_cases h3 : t = []
      · subst h3; rw [List.nil_append, tag_empty h]; exact Nat.le_refl _
      · rw [tag_in h h2 h3]; simp; omega
    · rw [tag_open h h2]; exact Nat.le_refl _
  · rw [tag_plain h]; exact Nat.le_refl _

/-- a number's digits -/
abbrev dec (n : Nat) : List UInt8 := Lib.decDigits n
theorem dec_digit (n : Nat) : ∀ b ∈ dec n, 48 ≤ b.toNat ∧ b.toNat ≤ 57 := by
  induction n using Nat.strongRecOn with
  | ind n ih =>
    intro b hb
    unfold dec at hb
    rw [Lib.decDigits] at hb
    split at hb
    · have e := List.mem_singleton.1 hb
      rw [e, UInt8.toNat_ofNat']
      omega
    · rcases List.mem_append.1 hb with hb | hb
      · exact ih (n / 10) (by omega) b hb
      · have e := List.mem_singleton.1 hb
        rw [e, UInt8.toNat_ofNat']
        omega
theorem dec_ne (n : Nat) : dec n ≠ [] := by
  unfold dec; rw [Lib.decDigits]; split <;> simp
theorem dec_not {n : Nat} {c : UInt8} (h : c.toNat < 48) : c ∉ dec n := fun m => by
  have := dec_digit n c m
  omega
theorem parse_dec_aux (l : List UInt8) : ∀ acc d, (∀ b ∈ l, 48 ≤ b.toNat ∧ b.toNat ≤ 57) → 48 ≤ d.toNat → d.toNat ≤ 57 →
    Lib.parseUint10 acc (l ++ [d]) = (match Lib.parseUint10 acc l with | .ok u => if 1844674407370955162 ≤ u then .range else if 18446744073709551616 ≤ u * 10 + (d.toNat - 48) then .range else .ok (u * 10 + (d.toNat - 48)) | e => e) := by
  induction l with
  | nil => intro acc d _ h1 h2; simp [Lib.parseUint10, h1, h2]
  | cons c l ih =>
    intro acc d h h1 h2
    have hc := h c (by simp)
    simp only [List.cons_append, Lib.parseUint10, if_pos hc]
    split
    · rfl
    · split
      · rfl
      · exact ih _ d (fun b hb => h b (by simp [hb])) h1 h2
theorem parse_dec (n : Nat) (hn : n < 1000000) : Lib.parseUint10 0 (dec n) = .ok n := by
  induction n using Nat.strongRecOn with
  | ind n ih =>
    unfold dec
    rw [Lib.decDigits]
    split
    · have e : (UInt8.ofNat (48 + n)).toNat = 48 + n := by rw [UInt8.toNat_ofNat']; omega
      simp only [Lib.parseUint10, e]
      rw [if_pos (by omega), if_neg (by omega), if_neg (by omega)]
      congr 1
      omega
    · have e : (UInt8.ofNat (48 + n % 10)).toNat = 48 + n % 10 := by rw [UInt8.toNat_ofNat']; omega
      rw [parse_dec_aux _ 0 _ (dec_digit _) (by omega) (by omega), ih (n / 10) (by omega) (by omega)]
      simp only [e]
      rw [if_neg (by omega), if_neg (by omega)]
      congr 1
      omega
theorem atoi_dec (n : Nat) (hn : n < 1000000) : Lib.atoiAll (dec n) = .ok (n : Int) := by
  have hp := parse_dec n hn
  have hd := dec_digit n
  have hne := dec_ne n
  generalize dec n = l at hp hd hne
  cases l with
  | nil => exact absurd rfl hne
  | cons c r =>
    have hc := hd c (by simp)
    have h43 : ¬ (c.toNat = 43 ∨ c.toNat = 45) := by omega
    have h45 : ¬ c.toNat = 45 := by omega
    have hm : Lib.parseMag (c :: r) = .ok n := by unfold Lib.parseMag; rw [if_neg hne, hp]
    unfold Lib.atoiAll
    simp only [if_neg h43, hm]
    rw [if_neg (by omega), if_neg (by omega), if_neg h45]

/-- a slot's digits -/
def readNum (t : List UInt8) : Option Nat :=
  match Lib.atoiAll t with
  | .ok v => if 0 ≤ v ∧ v < 16384 ∧ Lib.itoa v = t then some v.toNat else none
  | _ => none
theorem readNum_iff (t : List UInt8) (n : Nat) : readNum t = some n ↔ n < top ∧ t = dec n := by
  constructor
  · intro h
    unfold readNum at h
    split at h
    · rename_i v hv
      split at h
      · rename_i hh
        injection h with h
        have e : v = (n : Int) := by omega
        subst e
        rw [Lib.itoa_nonneg] at hh
        exact ⟨by unfold top; omega, hh.2.2.symm⟩
      · cases h
    · cases h
  · rintro ⟨h, rfl⟩
    unfold readNum
    unfold top at h
    rw [atoi_dec n (by omega)]
    simp only [Lib.itoa_nonneg]
    rw [if_pos ⟨by omega, by omega, trivial⟩]
    rfl
theorem dec_inj {a b : Nat} (ha : a < top) (h : dec a = dec b) (hb : b < top) : a = b := by
  have h1 := (readNum_iff (dec a) a).2 ⟨ha, rfl⟩
  have h2 := (readNum_iff (dec a) b).2 ⟨hb, h⟩
  rw [h1] at h2
  exact Option.some.inj h2

/-- how a range is written -/
def piece (p : Nat × Nat) : List UInt8 := dec p.1 ++ if p.1 < p.2 then 45 :: dec p.2 else []
/-- how a range is read -/
def readRange (t : List UInt8) : Option (Nat × Nat) :=
  match readNum (cut 45 t).1 with
  | none => none
  | some f => if (cut 45 t).2.2 = false then some (f, f) else
    match readNum (cut 45 t).2.1 with
    | none => none
    | some u => if f < u then some (f, u) else none
theorem piece_not (p : Nat × Nat) : (32 : UInt8) ∉ piece p := by
  unfold piece
  intro h
  rcases List.mem_append.1 h with h | h
  · exact dec_not (by decide) h
  · split at h
    · rcases List.mem_cons.1 h with h | h
      · exact absurd h (by decide)
      · exact dec_not (by decide) h
    · cases h
theorem piece_ne (p : Nat × Nat) : piece p ≠ [] := by
  unfold piece
  intro h
  exact dec_ne _ (List.append_eq_nil_iff.1 h).1
theorem readRange_iff (t : List UInt8) (f u : Nat) : readRange t = some (f, u) ↔ f ≤ u ∧ u < top ∧ t = piece (f, u) := by
  constructor
  · intro h
    unfold readRange at h
    split at h
    · cases h
    · rename_i a ha
      rw [readNum_iff] at ha
      rcases cut_cases 45 t with ⟨p, r, rfl, hp⟩ | hp
      · rw [cut_hit hp] at h ha
        simp only [Bool.true_eq_false, if_false] at h
        split at h
        · cases h
        · rename_i b hb
          rw [readNum_iff] at hb
          split at h
          · injection h with h
            injection h with h1 h2
            subst h1 h2
            rename_i hlt
            refine ⟨by omega, hb.1, ?_⟩
            simp only [piece, if_pos hlt]
            rw [show p = dec a from ha.2, show r = dec b from hb.2]
          · cases h
      · rw [cut_miss hp] at h ha
        simp only [if_true] at h
        injection h with h
        injection h with h1 h2
        subst h1 h2
        exact ⟨Nat.le_refl _, ha.1, by simp only [piece, Nat.lt_irrefl, if_false, List.append_nil]; exact ha.2⟩
  · rintro ⟨h1, h2, rfl⟩
    unfold readRange piece
    have hf : (45 : UInt8) ∉ dec f := dec_not (by decide)
    have hr := (readNum_iff (dec f) f).2 ⟨by omega, rfl⟩
    have hu := (readNum_iff (dec u) u).2 ⟨h2, rfl⟩
    by_cases hlt : f < u
    · simp only [if_pos hlt]
      rw [cut_hit hf]
      simp only [hr, hu, hlt, if_true, Bool.true_eq_false, if_false]
    · have e : f = u := by omega
      subst e
      simp only [Nat.lt_irrefl, if_false, List.append_nil]
      rw [cut_miss hf]
      simp only [hr, if_true]

/-- how ranges are written -/
def print : List (Nat × Nat) → List UInt8
  | [] => []
  | [p] => piece p
  | p :: q :: l => piece p ++ 32 :: print (q :: l)
theorem print_snoc (l : List (Nat × Nat)) (p : Nat × Nat) : print (l ++ [p]) = print l ++ (if l = [] then [] else [32]) ++ piece p := by
  induction l with
  | nil => simp [print]
  | cons q l ih =>
    cases l with
    | nil => simp [print]
    | cons r l =>
      simp only [List.cons_append, print, ih] at ih ⊢
      simp
theorem print_cons (p : Nat × Nat) (l : List (Nat × Nat)) (h : l ≠ []) : print (p :: l) = piece p ++ 32 :: print l := by
  cases l with
  | nil => exact absurd rfl h
  | cons q l => rfl
/-- how ranges are read -/
def parse : Nat → List UInt8 → Nat → Option (List (Nat × Nat))
  | 0, _, _ => none
  | fuel + 1, s, least =>
    match readRange (cut 32 s).1 with
    | none => none
    | some p => if p.1 < least then none else if (cut 32 s).2.2 = true then (parse fuel (cut 32 s).2.1 (p.2 + 2)).map (p :: ·) else some [p]
/-- rising, and none touches the next -/
def Chain : Nat → List (Nat × Nat) → Prop
  | _, [] => True
  | m, p :: l => m ≤ p.1 ∧ p.1 ≤ p.2 ∧ p.2 < top ∧ Chain (p.2 + 2) l
theorem parse_sound : ∀ (fuel : Nat) (s : List UInt8) (m : Nat) (l : List (Nat × Nat)), parse fuel s m = some l → s = print l ∧ l ≠ [] ∧ Chain m l
  | 0, _, _, _, h => by cases h
  | fuel + 1, s, m, l, h => by
    unfold parse at h
    split at h
    · cases h
    · rename_i p hp
      obtain ⟨f, u⟩ := p
      rw [readRange_iff] at hp
      split at h
      · cases h
      · rename_i hm
        rcases cut_cases 32 s with ⟨a, r, rfl, ha⟩ | ha
        · rw [cut_hit ha] at h hp
          simp only [if_true, Option.map_eq_some_iff] at h
          obtain ⟨k, hk, rfl⟩ := h
          obtain ⟨h1, h2, h3⟩ := parse_sound fuel r _ k hk
          refine ⟨?_, by simp, ?_⟩
          · rw [print_cons _ _ h2, ← h1, ← hp.2.2]
          · exact ⟨by simpa using hm, hp.1, hp.2.1, h3⟩
        · rw [cut_miss ha] at h hp
          simp only [Bool.false_eq_true, if_false] at h
          injection h with h
          subst h
          exact ⟨hp.2.2, by simp, by simpa using hm, hp.1, hp.2.1, trivial⟩
theorem parse_print : ∀ (l : List (Nat × Nat)) (fuel m : Nat), l ≠ [] → l.length ≤ fuel → Chain m l → parse fuel (print l) m = some l
  | [], _, _, h, _, _ => absurd rfl h
  | p :: l, 0, _, _, h, _ => by simp at h
  | p :: l, fuel + 1, m, _, hf, ⟨h1, h2, h3, h4⟩ => by
    have hr := (readRange_iff (piece p) p.1 p.2).2 ⟨h2, h3, rfl⟩
    by_cases e : l = []
    · subst e
      unfold parse
      rw [show print [p] = piece p from rfl, cut_miss (piece_not p)]
      simp only [hr, Bool.false_eq_true, if_false]
      rw [if_neg (by simpa using h1)]
    · have ih := parse_print l fuel _ e (by simpa using hf) h4
      unfold parse
      rw [print_cons _ _ e, cut_hit (piece_not p)]
      simp only [hr, if_true]
      rw [if_neg (by simpa using h1), ih]
      rfl
theorem parse_step (fuel : Nat) (s : List UInt8) (m : Nat) : parse (fuel + 1) s m = (match readRange (cut 32 s).1 with
    | none => none
    | some p => if p.1 < m then none else if (cut 32 s).2.2 = true then (parse fuel (cut 32 s).2.1 (p.2 + 2)).map (p :: ·) else some [p]) := rfl
theorem cut_less {c : UInt8} {l : List UInt8} (h : (cut c l).2.2 = true) : (cut c l).2.1.length < l.length := by
  rcases cut_cases c l with ⟨p, r, rfl, hp⟩ | hp
  · rw [cut_hit hp]; simp; omega
  · rw [cut_miss hp] at h; cases h
theorem readRange_lt {t : List UInt8} {p : Nat × Nat} (h : readRange t = some p) : p.1 ≤ p.2 ∧ p.2 < top := by
  have := (readRange_iff t p.1 p.2).1 h
  exact ⟨this.1, this.2.1⟩
theorem print_ne : ∀ {l : List (Nat × Nat)}, l ≠ [] → print l ≠ []
  | [], h => absurd rfl h
  | [p], _ => piece_ne p
  | p :: q :: l, _ => by simp [print]
theorem print_length : ∀ l : List (Nat × Nat), l.length ≤ (print l).length
  | [] => Nat.le_refl _
  | [p] => by
    have := List.length_pos_iff.2 (piece_ne p)
    exact this
  | p :: q :: l => by
    have := print_length (q :: l)
    simp only [print, List.length_append, List.length_cons] at this ⊢
    omega
/-- the ranges that a text says -/
def parseAll (s : List UInt8) : Option (List (Nat × Nat)) := if s = [] then some [] else parse (s.length + 1) s 0
theorem parseAll_sound {s : List UInt8} {l : List (Nat × Nat)} (h : parseAll s = some l) : s = print l ∧ Chain 0 l := by
  unfold parseAll at h
  split at h
  · injection h with h; subst h; rename_i e; exact ⟨e, trivial⟩
  · obtain ⟨h1, _, h3⟩ := parse_sound _ _ _ _ h
    exact ⟨h1, h3⟩
theorem parseAll_print {l : List (Nat × Nat)} (h : Chain 0 l) : parseAll (print l) = some l := by
  unfold parseAll
  by_cases e : l = []
  · subst e; rfl
  · rw [if_neg (print_ne e)]
    exact parse_print l _ _ e (Nat.le_succ_of_le (print_length l)) h
theorem Chain.ofList : ∀ {l : List (Nat × Nat)} {m : Nat}, Chain m l → ∀ n, n < m → Slot.ofList l n = false
  | [], _, _, _, _ => rfl
  | (f, t) :: l, m, ⟨h1, h2, h3, h4⟩, n, hn => by
    have := Chain.ofList h4 n (by simp only at h1 h2 ⊢; omega)
    simp only [Slot.ofList, List.any_cons] at this ⊢
    rw [this]
    simp; omega
theorem Chain.runs : ∀ {l : List (Nat × Nat)} {m k : Nat} {S : Nat → Bool}, Chain m l → k ≤ m → (∀ n, k ≤ n → n < top → S n = Slot.ofList l n) → Runs S k l
  | [], _, _, _, _, _, hS => fun n h1 h2 => by rw [hS n h1 h2]; rfl
  | (f, t) :: l, m, k, S, ⟨h1, h2, h3, h4⟩, hk, hS => by
    simp only at h1 h2 h3 h4
    have hb := Chain.ofList h4
    have hn : ∀ n, Slot.ofList ((f, t) :: l) n = (decide (f ≤ n ∧ n ≤ t) || Slot.ofList l n) := fun n => by simp [Slot.ofList]
    refine ⟨by omega, h2, h3, fun n a b => ?_, fun n a b => ?_, fun a => ?_, ?_⟩
    · rw [hS n a (by omega), hn, hb n (by omega)]; simp; omega
    · rw [hS n (by omega) (by omega), hn]; simp [a, b]
    · rw [hS _ (by omega) a, hn, hb _ (by omega)]; simp
    · refine Chain.runs h4 (by omega) fun n a b => ?_
      rw [hS n (by omega) b, hn]
      have : ¬ (f ≤ n ∧ n ≤ t) := by omega
      simp [this]
theorem Runs.chain {S : Nat → Bool} : ∀ {l : List (Nat × Nat)} {k : Nat}, Runs S k l → Chain k l
  | [], _, _ => trivial
  | (f, t) :: l, k, ⟨h1, h2, h3, _, h5, h6, h7⟩ => by
    refine ⟨h1, h2, h3, ?_⟩
    cases l with
    | nil => trivial
    | cons q l =>
      obtain ⟨g1, g2, g3, g4⟩ := Runs.chain h7
      refine ⟨?_, g2, g3, g4⟩
      obtain ⟨f', t'⟩ := q
      obtain ⟨_, k2, k3, _, k5, _⟩ := h7
      simp only at g1 g2 g3 ⊢
      rcases Nat.lt_or_ge f' (t + 2) with h | h
      · have e : f' = t + 1 := by omega
        subst e
        have a := h6 (by omega)
        have b := k5 (t + 1) (Nat.le_refl _) k2
        rw [a] at b; cases b
      · exact h
theorem chain_runs {l : List (Nat × Nat)} (h : Chain 0 l) : Runs (Slot.ofList l) 0 l := h.runs (Nat.le_refl _) fun _ _ _ => rfl

end Slot
end Go.Proofs.Ytdicjnkbmlamgab

namespace Go.Proofs.Ytdicjnkbmlamgab.Crc

/-- one bit more, the highest of a byte first -/
def bstep (c : BitVec 16) (b : Bool) : BitVec 16 := (c <<< 1) ^^^ (if (c.msb ^^ b) then 0x1021#16 else 0#16)
def bits8 (x : BitVec 8) : List Bool := [x.getLsbD 7, x.getLsbD 6, x.getLsbD 5, x.getLsbD 4, x.getLsbD 3, x.getLsbD 2, x.getLsbD 1, x.getLsbD 0]
/-- one byte more -/
def step (c : BitVec 16) (x : BitVec 8) : BitVec 16 := (bits8 x).foldl bstep c
def more (c : BitVec 16) (l : List (BitVec 8)) : BitVec 16 := l.foldl step c

/-- the document's words -/
def zstep (c : BitVec 16) : BitVec 16 := if 32768 ≤ c.toNat then (c * 2#16) ^^^ 0x1021#16 else c * 2#16
def zsteps : Nat → BitVec 16 → BitVec 16
  | 0, c => c
  | n + 1, c => zsteps n (zstep c)
def docStep (c : BitVec 16) (x : BitVec 8) : BitVec 16 := zsteps 8 (c ^^^ (x.setWidth 16 * 256#16))

/-- the program's table of half bytes -/
def tabL : List (BitVec 16) := [0x0000#16, 0x1021#16, 0x2042#16, 0x3063#16, 0x4084#16, 0x50a5#16, 0x60c6#16, 0x70e7#16, 0x8108#16, 0x9129#16, 0xa14a#16, 0xb16b#16, 0xc18c#16, 0xd1ad#16, 0xe1ce#16, 0xf1ef#16]
def tabB (i : BitVec 4) : BitVec 16 := tabL.getD i.toNat 0#16
def halfB (c : BitVec 16) (h : BitVec 4) : BitVec 16 := (c <<< 4) ^^^ tabB (c.extractLsb' 12 4 ^^^ h)

theorem bstep_xor (c d : BitVec 16) (a b : Bool) : bstep (c ^^^ d) (a ^^ b) = bstep c a ^^^ bstep d b := by
  unfold bstep
  rw [BitVec.shiftLeft_xor_distrib, BitVec.msb_xor]
  generalize c <<< 1 = p
  generalize d <<< 1 = q
  apply BitVec.eq_of_getLsbD_eq
  intro i _
  simp only [BitVec.getLsbD_xor]
  cases c.msb <;> cases d.msb <;> cases a <;> cases b <;> simp <;> cases p.getLsbD i <;> cases q.getLsbD i <;> cases (4129#16).getLsbD i <;> rfl

theorem step_xor (c d : BitVec 16) (x y : BitVec 8) : step (c ^^^ d) (x ^^^ y) = step c x ^^^ step d y := by
  simp only [step, bits8, List.foldl, BitVec.getLsbD_xor, bstep_xor]

theorem more_xor (l m : List (BitVec 8)) (h : l.length = m.length) (c d : BitVec 16) : more (c ^^^ d) (List.zipWith (· ^^^ ·) l m) = more c l ^^^ more d m := by
  induction l generalizing m c d with
  | nil => cases m with
    | nil => rfl
    | cons y m => simp at h
  | cons x l ih => cases m with
    | nil => simp at h
    | cons y m =>
      simp only [more, List.zipWith_cons_cons, List.foldl_cons, step_xor] at ih ⊢
      exact ih m (by simpa using h) _ _

theorem more_append (c : BitVec 16) (l m : List (BitVec 8)) : more c (l ++ m) = more (more c l) m := List.foldl_append

theorem split16 (c : BitVec 16) : c = (c.setWidth 8).setWidth 16 ^^^ (((c >>> 8).setWidth 8).setWidth 16 <<< 8) := by
  apply BitVec.eq_of_getLsbD_eq
  intro i hi
  by_cases h8 : i < 8
  · simp [h8, hi]
  · simp [h8, hi]
    have h1 : i - 8 < 8 := by omega
    rw [show 8 + (i - 8) = i by omega, BitVec.getLsbD_eq_getElem hi]
    simp [h1]

theorem lin_ext (f g : BitVec 16 → BitVec 16) (hf : ∀ a b, f (a ^^^ b) = f a ^^^ f b) (hg : ∀ a b, g (a ^^^ b) = g a ^^^ g b)
    (h0 : ∀ x : BitVec 8, f (x.setWidth 16) = g (x.setWidth 16)) (h1 : ∀ x : BitVec 8, f (x.setWidth 16 <<< 8) = g (x.setWidth 16 <<< 8)) (c : BitVec 16) : f c = g c := by
  rw [split16 c, hf, hg, h0, h1]

theorem tab_xor : ∀ i j : BitVec 4, tabB (i ^^^ j) = tabB i ^^^ tabB j := by decide +kernel
theorem ext_xor (c d : BitVec 16) : (c ^^^ d).extractLsb' 12 4 = c.extractLsb' 12 4 ^^^ d.extractLsb' 12 4 := by
  apply BitVec.eq_of_getLsbD_eq
  intro i _
  simp
  cases decide (i < 4) <;> simp
theorem half_xor (c d : BitVec 16) (g h : BitVec 4) : halfB (c ^^^ d) (g ^^^ h) = halfB c g ^^^ halfB d h := by
  unfold halfB
  rw [BitVec.shiftLeft_xor_distrib, ext_xor, show c.extractLsb' 12 4 ^^^ d.extractLsb' 12 4 ^^^ (g ^^^ h) = (c.extractLsb' 12 4 ^^^ g) ^^^ (d.extractLsb' 12 4 ^^^ h) by ac_rfl, tab_xor]
  ac_rfl

/-- what the program does with a byte -/
theorem code_step (c : BitVec 16) (x : BitVec 8) : halfB (halfB c (x.extractLsb' 4 4)) (x.extractLsb' 0 4) = step c x := by
  have e4 : ∀ y : BitVec 8, (0#8 ^^^ y).extractLsb' 4 4 = (0#8).extractLsb' 4 4 ^^^ y.extractLsb' 4 4 := by decide +kernel
  have e0 : ∀ y : BitVec 8, (0#8 ^^^ y).extractLsb' 0 4 = (0#8).extractLsb' 0 4 ^^^ y.extractLsb' 0 4 := by decide +kernel
  have hx : ∀ y : BitVec 8, halfB (halfB 0#16 (y.extractLsb' 4 4)) (y.extractLsb' 0 4) = step 0#16 y := by decide +kernel
  have hc : ∀ d : BitVec 16, halfB (halfB d ((0#8).extractLsb' 4 4)) ((0#8).extractLsb' 0 4) = step d 0#8 := by
    refine lin_ext _ _ (fun a b => ?_) (fun a b => ?_) (by decide +kernel) (by decide +kernel)
    · have z4 : (0#8).extractLsb' 4 4 = (0#8).extractLsb' 4 4 ^^^ (0#8).extractLsb' 4 4 := by decide
      have z0 : (0#8).extractLsb' 0 4 = (0#8).extractLsb' 0 4 ^^^ (0#8).extractLsb' 0 4 := by decide
      conv => lhs; rw [z0, z4]
      rw [half_xor, half_xor]
    · conv => lhs; rw [show (0#8) = 0#8 ^^^ 0#8 by decide]
      rw [step_xor]
  have e : x = 0#8 ^^^ x := by simp
  have d : c = c ^^^ 0#16 := by simp
  conv => lhs; rw [e, d, e4, e0, half_xor, half_xor, hc, hx, ← step_xor, ← e, ← d]

theorem zstep_eq (c : BitVec 16) : zstep c = bstep c false := by
  unfold zstep bstep
  have h2 : c * 2#16 = c <<< 1 := by
    apply BitVec.eq_of_toNat_eq
    simp [BitVec.toNat_mul, BitVec.toNat_shiftLeft, Nat.shiftLeft_eq]
  have hm : c.msb = decide (32768 ≤ c.toNat) := by rw [BitVec.msb_eq_decide]
  rw [h2, hm]
  by_cases h : 32768 ≤ c.toNat <;> simp [h]
theorem zsteps_xor (n : Nat) (c d : BitVec 16) : zsteps n (c ^^^ d) = zsteps n c ^^^ zsteps n d := by
  induction n generalizing c d with
  | zero => rfl
  | succ n ih => rw [zsteps, zsteps, zsteps, zstep_eq, zstep_eq, zstep_eq, ← ih, ← bstep_xor]; rfl
/-- what the document does with a byte -/
theorem doc_step (c : BitVec 16) (x : BitVec 8) : docStep c x = step c x := by
  have hx : ∀ y : BitVec 8, zsteps 8 (y.setWidth 16 * 256#16) = step 0#16 y := by decide +kernel
  have hc : zsteps 8 c = step c 0#8 := by simp [zsteps, zstep_eq, step, bits8]
  unfold docStep
  rw [zsteps_xor, hx, hc, ← step_xor]
  simp

end Go.Proofs.Ytdicjnkbmlamgab.Crc

namespace Go.Proofs.Ytdicjnkbmlamgab
open Slot

abbrev Bs := List UInt8
/-- a number in k bytes, the highest first -/
def be : Nat → Nat → Bs
  | 0, _ => []
  | k + 1, n => UInt8.ofNat (n / 256 ^ k) :: be k n
theorem be_len : ∀ k n, (be k n).length = k
  | 0, _ => rfl
  | k + 1, n => by rw [be, List.length_cons, be_len k n]
theorem be_get : ∀ (k n i : Nat), i < k → (be k n)[i]? = some (UInt8.ofNat (n / 256 ^ (k - 1 - i)))
  | 0, _, _, h => absurd h (Nat.not_lt_zero _)
  | k + 1, n, 0, _ => rfl
  | k + 1, n, i + 1, h => by
    rw [be, List.getElem?_cons_succ, be_get k n i (by omega)]
    rw [show k + 1 - 1 - (i + 1) = k - 1 - i by omega]
/-- the number of bytes -/
def nb (l : Bs) : Nat := l.foldl (fun n b => n * 256 + b.toNat) 0
theorem nb_acc : ∀ (k n a : Nat), (be k n).foldl (fun n b => n * 256 + b.toNat) a = a * 256 ^ k + n % 256 ^ k
  | 0, n, a => by simp [be, Nat.mod_one]
  | k + 1, n, a => by
    rw [be, List.foldl_cons, nb_acc k n, UInt8.toNat_ofNat']
    have h1 : 256 ^ (k + 1) = 256 * 256 ^ k := by rw [Nat.pow_succ, Nat.mul_comm]
    have h2 : n % (256 * 256 ^ k) = 256 ^ k * (n / 256 ^ k % 256) + n % 256 ^ k := by
      rw [Nat.mul_comm 256, Nat.mod_mul]; omega
    rw [h1, h2, Nat.add_mul, Nat.mul_assoc, show (2 : Nat) ^ 8 = 256 from rfl, Nat.mul_comm (n / 256 ^ k % 256), Nat.add_assoc]
theorem nb_be (k n : Nat) : nb (be k n) = n % 256 ^ k := by
  have := nb_acc k n 0
  simpa [nb] using this
theorem nb_lt : ∀ (l : Bs) (a k : Nat), a < 256 ^ k → l.foldl (fun n b => n * 256 + b.toNat) a < 256 ^ (k + l.length)
  | [], a, k, h => by simpa using h
  | b :: l, a, k, h => by
    rw [List.foldl_cons, List.length_cons, show k + (l.length + 1) = (k + 1) + l.length by omega]
    refine nb_lt l _ (k + 1) ?_
    have hb := b.toNat_lt
    rw [Nat.pow_succ]
    have : (a + 1) * 256 ≤ 256 ^ k * 256 := Nat.mul_le_mul_right _ h
    omega

/-! the writing of slots -/
theorem least {P : Nat → Prop} : ∀ n, P n → ∃ k, k ≤ n ∧ P k ∧ ∀ j, j < k → ¬ P j := fun n => by
  induction n using Nat.strongRecOn with
  | ind n ih =>
    intro h
    by_cases e : ∃ j, j < n ∧ P j
    · obtain ⟨j, hj, hp⟩ := e
      obtain ⟨k, h1, h2⟩ := ih j hj hp
      exact ⟨k, by omega, h2⟩
    · exact ⟨n, Nat.le_refl _, h, fun j hj hp => e ⟨j, hj, hp⟩⟩
theorem runs_from (S : Nat → Bool) : ∀ k m, top - m ≤ k → m ≤ top → ∃ l, Runs S m l
  | 0, m, h, hm => ⟨[], fun n h1 h2 => by omega⟩
  | k + 1, m, h, hm => by
    by_cases e : ∃ n, m ≤ n ∧ n < top ∧ S n = true
    · obtain ⟨n, hn⟩ := e
      obtain ⟨f, _, ⟨h1, h2, h3⟩, h4⟩ := least (P := fun n => m ≤ n ∧ n < top ∧ S n = true) n hn
      obtain ⟨t, _, ⟨h5, h6⟩, h7⟩ := least (P := fun t => f ≤ t ∧ (t + 1 < top → S (t + 1) = false)) (top - 1) ⟨by unfold top at *; omega, fun h => by unfold top at h; omega⟩
      have ht : t < top := by
        by_cases c : t < top
        · exact c
        · exact absurd ⟨by omega, fun h => by omega⟩ (h7 (t - 1) (by unfold top at *; omega))
      obtain ⟨l, hl⟩ := runs_from S k (t + 1) (by omega) (by omega)
      refine ⟨(f, t) :: l, h1, h5, ht, fun n a b => ?_, fun n a b => ?_, h6, hl⟩
      · cases c : S n
        · rfl
        · exact absurd ⟨a, by omega, c⟩ (h4 n b)
      · by_cases c : n = f
        · rw [c]; exact h3
        · have := h7 (n - 1) (by omega)
          cases d : S n
          · exact absurd ⟨by omega, fun _ => by rw [show n - 1 + 1 = n by omega]; exact d⟩ this
          · rfl
    · refine ⟨[], fun n h1 h2 => ?_⟩
      cases c : S n
      · rfl
      · exact absurd ⟨n, h1, h2, c⟩ e
theorem runs_ex (S : Nat → Bool) : ∃ l, Runs S 0 l := runs_from S top 0 (by omega) (by omega)
/-- a set's ranges -/
noncomputable def runsOf (S : Nat → Bool) : List (Nat × Nat) := Classical.choose (runs_ex S)
theorem runs_of (S : Nat → Bool) : Runs S 0 (runsOf S) := Classical.choose_spec (runs_ex S)
theorem runsOf_eq {S : Nat → Bool} {l : List (Nat × Nat)} (h : Runs S 0 l) : runsOf S = l := (runs_of S).unique h
/-- a set's writing -/
noncomputable def ctext (S : Nat → Bool) : Bs := print (runsOf S)
theorem ctext_eq {S : Nat → Bool} {l : List (Nat × Nat)} (h : Runs S 0 l) : print l = ctext S := by rw [ctext, runsOf_eq h]
theorem ctext_parse (S : Nat → Bool) : parseAll (ctext S) = some (runsOf S) := parseAll_print (runs_of S).chain
theorem ctext_set (S : Nat → Bool) (n : Nat) (h : n < top) : ofList (runsOf S) n = S n := (runs_of S).ofList n (Nat.zero_le _) h
theorem ctext_congr {S T : Nat → Bool} (h : ∀ n, n < top → S n = T n) : ctext S = ctext T := by
  rw [← ctext_eq ((runs_of S).congr fun n _ hn => h n hn)]; rfl
theorem ctext_inj {S T : Nat → Bool} (h : ctext S = ctext T) : ∀ n, n < top → S n = T n := fun n hn => by
  have h1 := ctext_parse S
  rw [h, ctext_parse T] at h1
  rw [← ctext_set S n hn, ← ctext_set T n hn, Option.some.inj h1]
theorem ctext_none : ctext (fun _ => false) = [] := by
  rw [← ctext_eq (l := []) (fun _ _ _ => rfl)]; rfl
theorem dec_few (k : Nat) : ∀ m, m < 10 ^ (k + 1) → (dec m).length ≤ k + 1 := by
  induction k with
  | zero => intro m hm; unfold dec; rw [Lib.decDigits, dif_pos (by omega)]; simp
  | succ k ih =>
    intro m hm
    unfold dec
    rw [Lib.decDigits]
    split
    · simp
    · have := ih (m / 10) (by rw [Nat.pow_succ] at hm; omega)
      rw [List.length_append]
      simp only [List.length_singleton]
      exact Nat.succ_le_succ this
/-- how much may yet come of the slots from m on -/
def phi (m : Nat) : Nat := 4 * (16386 - m) - (1000 - m)
theorem piece_phi (f t : Nat) (h1 : f ≤ t) (h2 : t < 16384) : (piece (f, t)).length + 1 + phi (t + 2) ≤ phi f := by
  have f5 := dec_few 4 f (by omega)
  have t5 := dec_few 4 t (by omega)
  have f3 : f < 1000 → (dec f).length ≤ 3 := fun h => dec_few 2 f (by omega)
  have t3 : t < 1000 → (dec t).length ≤ 3 := fun h => dec_few 2 t (by omega)
  unfold piece phi
  split
  · simp only [List.length_append, List.length_cons]
    by_cases a : f < 1000
    · have := f3 a
      by_cases b : t < 1000
      · have := t3 b; omega
      · omega
    · omega
  · simp only [List.length_append, List.length_nil]
    omega
theorem phi_mono {a b : Nat} (h : a ≤ b) : phi b ≤ phi a := by unfold phi; omega
theorem print_phi : ∀ (l : List (Nat × Nat)) (m : Nat), Chain m l → (print l).length ≤ phi m
  | [], m, _ => by simp [print]
  | [(f, t)], m, ⟨h1, h2, h3, _⟩ => by
    have := piece_phi f t h2 h3
    have b : phi f ≤ phi m := phi_mono h1
    simp only [print]; omega
  | (f, t) :: q :: l, m, ⟨h1, h2, h3, h4⟩ => by
    have a := piece_phi f t h2 h3
    have b : phi f ≤ phi m := phi_mono h1
    have c := print_phi (q :: l) (t + 2) h4
    simp only [print, List.length_append, List.length_cons] at c ⊢
    omega
theorem ctext_len (S : Nat → Bool) : (ctext S).length < 65536 := by
  have := print_phi _ _ (runs_of S).chain
  unfold ctext
  simp only [phi] at this
  omega

/-! packets -/
structure Pk where
  kind : Int
  frm : Int
  of_ : Int
  epoch : Nat
  cur : Nat
  cl : Nat → Bool
/-- P14.1 -/
def rightP (p : Pk) : Bool := decide ((p.kind = 1 ∨ p.kind = 2 ∨ p.kind = 3 ∨ p.kind = 4) ∧ (0 ≤ p.frm ∧ p.frm < 64) ∧ (0 ≤ p.of_ ∧ p.of_ < 64) ∧ (p.kind = 3 ∨ p.of_ = 0) ∧ p.epoch ≤ p.cur)
def sumN (n : Bs) : Nat := (Crc.more 0#16 (n.map UInt8.toBitVec)).toNat
theorem sumN_lt (n : Bs) : sumN n < 65536 := BitVec.isLt _
/-- what stands ahead of the claims -/
def front (p : Pk) (n : Nat) : Bs := be 1 p.kind.toNat ++ (be 1 p.frm.toNat ++ (be 1 p.of_.toNat ++ (be 8 p.epoch ++ (be 8 p.cur ++ be 2 n))))
noncomputable def headP (p : Pk) : Bs := front p (ctext p.cl).length ++ ctext p.cl
/-- P14.2 -/
noncomputable def enc (p : Pk) : Bs := headP p ++ be 2 (sumN (headP p))
theorem front_len (p : Pk) (n : Nat) : (front p n).length = 21 := by simp [front, be_len]
theorem enc_len (p : Pk) : (enc p).length = 23 + (ctext p.cl).length := by
  simp only [enc, headP, List.length_append, be_len, front_len]; omega
def setOf (s : Bs) : Nat → Bool := match parseAll s with
  | some l => ofList l
  | none => fun _ => false
/-- what the bytes of a text would say -/
def rdP (s : Bs) : Pk := ⟨((s.getD 0 0).toNat : Int), ((s.getD 1 0).toNat : Int), ((s.getD 2 0).toNat : Int), nb ((s.drop 3).take 8), nb ((s.drop 11).take 8), setOf ((s.drop 21).take (s.length - 23))⟩
open Classical in
/-- P14.3 -/
noncomputable def decP (s : Bs) : Option Pk := if 23 ≤ s.length ∧ rightP (rdP s) = true ∧ enc (rdP s) = s then some (rdP s) else none

def hiB (s : BitVec 16) : BitVec 8 := (s >>> 8).setWidth 8
def loB (s : BitVec 16) : BitVec 8 := s.setWidth 8
theorem hiB_xor (a b : BitVec 16) : hiB (a ^^^ b) = hiB a ^^^ hiB b := by
  apply BitVec.eq_of_getLsbD_eq
  intro i hi
  simp [hiB, hi]
theorem loB_xor (a b : BitVec 16) : loB (a ^^^ b) = loB a ^^^ loB b := by
  apply BitVec.eq_of_getLsbD_eq
  intro i hi
  simp [loB, hi]
theorem ends_zero (s : BitVec 16) : Crc.step (Crc.step s (hiB s)) (loB s) = 0#16 := by
  refine Crc.lin_ext (fun s => Crc.step (Crc.step s (hiB s)) (loB s)) (fun _ => 0#16) (fun a b => ?_) (fun a b => by simp) (by decide +kernel) (by decide +kernel) s
  show Crc.step (Crc.step (a ^^^ b) (hiB (a ^^^ b))) (loB (a ^^^ b)) = _
  rw [hiB_xor, loB_xor, Crc.step_xor, Crc.step_xor]
theorem step_two (c : BitVec 16) : Crc.more c ((be 2 c.toNat).map UInt8.toBitVec) = 0#16 := by
  have h := c.isLt
  have e1 : (UInt8.ofNat (c.toNat / 256 ^ 1)).toBitVec = hiB c := by
    apply BitVec.eq_of_toNat_eq
    show (UInt8.ofNat (c.toNat / 256 ^ 1)).toNat = _
    rw [UInt8.toNat_ofNat']
    simp [hiB, Nat.shiftRight_eq_div_pow]
  have e2 : (UInt8.ofNat (c.toNat / 256 ^ 0)).toBitVec = loB c := by
    apply BitVec.eq_of_toNat_eq
    show (UInt8.ofNat (c.toNat / 256 ^ 0)).toNat = _
    rw [UInt8.toNat_ofNat']
    simp [loB]
  have e : (be 2 c.toNat).map UInt8.toBitVec = [hiB c, loB c] := by rw [be, be, be, List.map_cons, List.map_cons, List.map_nil, e1, e2]
  rw [e]
  exact ends_zero c
theorem sum_two (l : Bs) : sumN (l ++ be 2 (sumN l)) = 0 := by
  have := step_two (Crc.more 0#16 (l.map UInt8.toBitVec))
  unfold sumN
  rw [List.map_append, Crc.more_append, this]
  rfl
theorem sum_enc (p : Pk) : sumN (enc p) = 0 := sum_two _

/-- the parts of a text: 21 bytes, more, and two -/
theorem mid_of (a t b : Bs) (ha : a.length = 21) (hb : b.length = 2) : ((a ++ t ++ b).drop 21).take ((a ++ t ++ b).length - 23) = t := by
  rw [List.append_assoc, List.drop_append_of_le_length (by omega), List.drop_of_length_le (by omega), List.nil_append]
  rw [show (a ++ (t ++ b)).length - 23 = t.length by simp only [List.length_append]; omega, List.take_left]
theorem get_app {a b : Bs} {i : Nat} (h : i < a.length) : (a ++ b).getD i 0 = a.getD i 0 := by
  simp [List.getD, List.getElem?_append_left h]
/-- alike but for slots that are none -/
def Like (p q : Pk) : Prop := p.kind = q.kind ∧ p.frm = q.frm ∧ p.of_ = q.of_ ∧ p.epoch = q.epoch ∧ p.cur = q.cur ∧ ∀ n, n < top → p.cl n = q.cl n
theorem Like.refl (p : Pk) : Like p p := ⟨rfl, rfl, rfl, rfl, rfl, fun _ _ => rfl⟩
theorem Like.symm {p q : Pk} (h : Like p q) : Like q p := ⟨h.1.symm, h.2.1.symm, h.2.2.1.symm, h.2.2.2.1.symm, h.2.2.2.2.1.symm, fun n hn => (h.2.2.2.2.2 n hn).symm⟩
theorem Like.trans {p q r : Pk} (h : Like p q) (k : Like q r) : Like p r := ⟨h.1.trans k.1, h.2.1.trans k.2.1, h.2.2.1.trans k.2.2.1, h.2.2.2.1.trans k.2.2.2.1, h.2.2.2.2.1.trans k.2.2.2.2.1, fun n hn => (h.2.2.2.2.2 n hn).trans (k.2.2.2.2.2 n hn)⟩
theorem Like.enc {p q : Pk} (h : Like p q) : enc p = enc q := by
  obtain ⟨h1, h2, h3, h4, h5, h6⟩ := h
  have : headP p = headP q := by unfold headP front; rw [h1, h2, h3, h4, h5, ctext_congr h6]
  unfold Go.Proofs.Ytdicjnkbmlamgab.enc
  rw [this]
theorem Like.right {p q : Pk} (h : Like p q) : rightP p = rightP q := by
  obtain ⟨h1, h2, h3, h4, h5, h6⟩ := h
  unfold rightP; rw [h1, h2, h3, h4, h5]
theorem rightP_iff {p : Pk} : rightP p = true ↔ (p.kind = 1 ∨ p.kind = 2 ∨ p.kind = 3 ∨ p.kind = 4) ∧ (0 ≤ p.frm ∧ p.frm < 64) ∧ (0 ≤ p.of_ ∧ p.of_ < 64) ∧ (p.kind = 3 ∨ p.of_ = 0) ∧ p.epoch ≤ p.cur := by
  unfold rightP; exact decide_eq_true_iff
theorem setOf_ctext (S : Nat → Bool) (n : Nat) (h : n < top) : setOf (ctext S) n = S n := by
  unfold setOf; rw [ctext_parse]; exact ctext_set S n h
/-- what was written says what it was -/
theorem rd_enc {p : Pk} (hr : rightP p = true) (he : p.epoch < 256 ^ 8) (hc : p.cur < 256 ^ 8) : Like (rdP (enc p)) p := by
  obtain ⟨hk, hf, ho, _⟩ := rightP_iff.1 hr
  have hs : enc p = be 1 p.kind.toNat ++ (be 1 p.frm.toNat ++ (be 1 p.of_.toNat ++ (be 8 p.epoch ++ (be 8 p.cur ++ (be 2 (ctext p.cl).length ++ (ctext p.cl ++ be 2 (sumN (headP p)))))))) := by
    simp only [enc, headP, front, List.append_assoc]
  have h1 : ∀ n, be 1 n = [UInt8.ofNat n] := fun n => by simp [be]
  have hb : ∀ z : Int, 0 ≤ z → z < 64 → ((UInt8.ofNat z.toNat).toNat : Int) = z := fun z a b => by
    rw [UInt8.toNat_ofNat']; omega
  refine ⟨?_, ?_, ?_, ?_, ?_, fun n hn => ?_⟩
  · rw [hs, h1]
    exact hb _ (by omega) (by omega)
  · rw [hs, h1, h1]
    exact hb _ hf.1 hf.2
  · rw [hs, h1, h1, h1]
    exact hb _ ho.1 ho.2
  · show nb (((enc p).drop 3).take 8) = _
    rw [hs, h1, h1, h1]
    simp only [List.cons_append, List.nil_append, List.drop_succ_cons, List.drop_zero]
    rw [List.take_append_of_le_length (by rw [be_len]; omega), List.take_of_length_le (by rw [be_len]; omega), nb_be, Nat.mod_eq_of_lt he]
  · show nb (((enc p).drop 11).take 8) = _
    rw [hs, h1, h1, h1]
    simp only [List.cons_append, List.nil_append, List.drop_succ_cons]
    rw [List.drop_append_of_le_length (by rw [be_len]; omega), List.drop_of_length_le (by rw [be_len]; omega), List.nil_append]
    rw [List.take_append_of_le_length (by rw [be_len]; omega), List.take_of_length_le (by rw [be_len]; omega), nb_be, Nat.mod_eq_of_lt hc]
  · show setOf (((enc p).drop 21).take ((enc p).length - 23)) n = _
    have : enc p = front p (ctext p.cl).length ++ ctext p.cl ++ be 2 (sumN (headP p)) := rfl
    rw [this, mid_of _ _ _ (front_len _ _) (be_len _ _)]
    exact setOf_ctext _ n hn
/-- P14.4: what was written is read -/
theorem dec_enc {p : Pk} (hr : rightP p = true) (he : p.epoch < 256 ^ 8) (hc : p.cur < 256 ^ 8) : decP (enc p) = some (rdP (enc p)) := by
  have h := rd_enc hr he hc
  unfold decP
  rw [if_pos ⟨by rw [enc_len]; omega, by rw [h.right]; exact hr, h.enc⟩]
theorem dec_some {s : Bs} {p : Pk} (h : decP s = some p) : 23 ≤ s.length ∧ rightP p = true ∧ enc p = s ∧ p = rdP s := by
  unfold decP at h
  split at h
  · rename_i c
    obtain rfl := Option.some.inj h
    exact ⟨c.1, c.2.1, c.2.2, rfl⟩
  · cases h
/-- a text of another sum than 0 is no packet's -/
theorem dec_sum {s : Bs} (h : sumN s ≠ 0) : decP s = none := by
  cases e : decP s with
  | none => rfl
  | some p => exact absurd (by rw [← (dec_some e).2.2.1]; exact sum_enc p) h
theorem dec_short {s : Bs} (h : s.length < 23) : decP s = none := by
  unfold decP; rw [if_neg (fun c => by omega)]
/-- what stands at the places 19 and 20 tells how long a writing is -/
theorem enc_tells (p : Pk) : (enc p).length = 23 + (((enc p).getD 19 0).toNat * 256 + ((enc p).getD 20 0).toNat) := by
  have hl := ctext_len p.cl
  have hs : enc p = (be 1 p.kind.toNat ++ be 1 p.frm.toNat ++ be 1 p.of_.toNat ++ be 8 p.epoch ++ be 8 p.cur) ++ (be 2 (ctext p.cl).length ++ (ctext p.cl ++ be 2 (sumN (headP p)))) := by
    simp only [enc, headP, front, List.append_assoc]
  have hA : (be 1 p.kind.toNat ++ be 1 p.frm.toNat ++ be 1 p.of_.toNat ++ be 8 p.epoch ++ be 8 p.cur).length = 19 := by simp [be_len]
  rw [enc_len, hs]
  generalize be 1 p.kind.toNat ++ be 1 p.frm.toNat ++ be 1 p.of_.toNat ++ be 8 p.epoch ++ be 8 p.cur = A at hA
  generalize (ctext p.cl).length = n at hl
  have h2 : be 2 n = [UInt8.ofNat (n / 256), UInt8.ofNat n] := by simp [be]
  have g : ∀ i, (A ++ (be 2 n ++ (ctext p.cl ++ be 2 (sumN (headP p))))).getD (19 + i) 0 = (be 2 n ++ (ctext p.cl ++ be 2 (sumN (headP p)))).getD i 0 := fun i => by
    simp only [List.getD]
    rw [List.getElem?_append_right (by omega), show 19 + i - A.length = i by omega]
  have g0 := g 0
  have g1 := g 1
  rw [Nat.add_zero] at g0
  rw [g0, show (20 : Nat) = 19 + 1 from rfl, g1, h2]
  show 23 + n = 23 + ((UInt8.ofNat (n / 256)).toNat * 256 + (UInt8.ofNat n).toNat)
  rw [UInt8.toNat_ofNat', UInt8.toNat_ofNat']
  omega
theorem dec_tells {s : Bs} (h : decP s ≠ none) : s.length = 23 + ((s.getD 19 0).toNat * 256 + (s.getD 20 0).toNat) := by
  cases e : decP s with
  | none => exact absurd e h
  | some p =>
    have := enc_tells p
    rwa [(dec_some e).2.2.1] at this
theorem dec_cut (p : Pk) (n : Nat) (h : n < (enc p).length) : decP ((enc p).take n) = none := by
  by_cases h23 : n < 23
  · exact dec_short (by rw [List.length_take]; omega)
  · cases e : decP ((enc p).take n) with
    | none => rfl
    | some q =>
      have h1 := dec_tells (s := (enc p).take n) (by rw [e]; simp)
      have h2 := enc_tells p
      have g : ∀ i, i < n → ((enc p).take n).getD i 0 = (enc p).getD i 0 := fun i hi => by
        simp only [List.getD]; rw [List.getElem?_take_of_lt hi]
      rw [g 19 (by omega), g 20 (by omega), List.length_take] at h1
      omega
theorem dec_more (p : Pk) (m : Bs) (h : m ≠ []) : decP (enc p ++ m) = none := by
  cases e : decP (enc p ++ m) with
  | none => rfl
  | some q =>
    have h1 := dec_tells (s := enc p ++ m) (by rw [e]; simp)
    have h2 := enc_tells p
    have h3 := enc_len p
    rw [get_app (by omega), get_app (by omega), List.length_append] at h1
    have := List.length_pos_iff.2 h
    omega
theorem enc_inj {p q : Pk} (hp : rightP p = true) (hq : rightP q = true) (h1 : p.epoch < 256 ^ 8) (h2 : p.cur < 256 ^ 8) (h3 : q.epoch < 256 ^ 8) (h4 : q.cur < 256 ^ 8) (h : enc p = enc q) : Like p q := by
  have a := rd_enc hp h1 h2
  have b := rd_enc hq h3 h4
  rw [h] at a
  exact a.symm.trans b
/-- claims that are none's writing are no packet's -/
theorem parse_none {s : Bs} (hn : parseAll ((s.drop 21).take (s.length - 23)) = none) : enc (rdP s) ≠ s := fun e => by
  have hc : (rdP s).cl = fun _ => false := by
    show setOf _ = _
    unfold setOf; rw [hn]
  have hl := enc_len (rdP s)
  rw [hc, ctext_none, e] at hl
  rw [hl] at hn
  simp [parseAll] at hn
theorem dec_bad {s : Bs} (h : ¬ (rightP (rdP s) = true ∧ enc (rdP s) = s)) : decP s = none := by
  unfold decP; rw [if_neg (fun c => h c.2)]
theorem dec_good {s : Bs} (h0 : 23 ≤ s.length) (h1 : rightP (rdP s) = true) (h2 : enc (rdP s) = s) : decP s = some (rdP s) := by
  unfold decP; rw [if_pos ⟨h0, h1, h2⟩]

end Go.Proofs.Ytdicjnkbmlamgab
