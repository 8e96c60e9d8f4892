/- Floats that hold whole numbers below 2^53: sums, differences and products are exact. Plain mathematics. -/
import Derived.Laws.ComplexArith
namespace Go.Proofs.YtenncfohifekhaaDoor
open Ieee

/-- a datum is this whole number (a zero may have either sign) -/
def Val (d : Datum) (n : Int) : Prop := ∃ (s : Bool) (m q : Nat), d = .number s m (-(q : Int)) ∧ m = n.natAbs * 2 ^ q ∧ (n < 0 → s = true) ∧ (0 < n → s = false)
theorem signed_val {s : Bool} {n : Int} (k : Nat) (h1 : n < 0 → s = true) (h2 : 0 < n → s = false) (m : Nat) (q : Nat) (hm : m = n.natAbs * 2 ^ q) : signed s m k = n * 2 ^ (q + k) := by
  unfold signed
  rw [Nat.shiftLeft_eq, hm]
  rcases Int.lt_trichotomy n 0 with h | h | h
  · rw [if_pos (h1 h)]
    have e : ((n.natAbs : Nat) : Int) = -n := by omega
    rw [Int.natCast_mul, Int.natCast_mul, e, Int.natCast_pow, Int.natCast_pow, Int.pow_add, Int.neg_mul, Int.neg_mul, Int.neg_neg]
    simp [Int.mul_assoc]
  · subst h
    cases s <;> simp
  · rw [h2 h]
    have e : ((n.natAbs : Nat) : Int) = n := by omega
    rw [if_neg (by simp), Int.natCast_mul, Int.natCast_mul, e, Int.natCast_pow, Int.natCast_pow, Int.pow_add]
    simp [Int.mul_assoc]
theorem Val.sum {d e : Datum} {a b : Int} (h : Val d a) (k : Val e b) : ∃ f, d.sum e = some f ∧ Val f (a + b) := by
  obtain ⟨s, m, q, rfl, hm, h1, h2⟩ := h
  obtain ⟨t, n, r, rfl, hn, k1, k2⟩ := k
  refine ⟨_, rfl, ?_⟩
  obtain ⟨Q, hQ⟩ : ∃ Q : Nat, Q = max q r := ⟨_, rfl⟩
  have hb : min (-(q : Int)) (-(r : Int)) = -(Q : Int) := by omega
  rw [hb, signed_val _ h1 h2 m q hm, signed_val _ k1 k2 n r hn]
  rw [show q + (-(q : Int) - -(Q : Int)).toNat = Q by omega, show r + (-(r : Int) - -(Q : Int)).toNat = Q by omega, ← Int.add_mul]
  have hp : (0 : Int) < 2 ^ Q := by exact_mod_cast Nat.two_pow_pos Q
  refine ⟨_, _, Q, rfl, ?_, fun hn => ?_, fun hn => ?_⟩
  · rw [Int.natAbs_mul, Int.natAbs_pow]; rfl
  · have : (a + b) * 2 ^ Q < 0 := Int.mul_neg_of_neg_of_pos hn hp
    rw [if_neg (by omega)]; exact decide_eq_true this
  · have : 0 < (a + b) * 2 ^ Q := Int.mul_pos hn hp
    rw [if_neg (by omega)]; exact decide_eq_false (by omega)
theorem Val.opposite {d : Datum} {a : Int} (h : Val d a) : Val d.opposite (-a) := by
  obtain ⟨s, m, q, rfl, hm, h1, h2⟩ := h
  exact ⟨!s, m, q, rfl, by rw [Int.natAbs_neg]; exact hm, fun h => by rw [h2 (by omega)]; rfl, fun h => by rw [h1 (by omega)]; rfl⟩
theorem Val.product {d e : Datum} {a b : Int} (h : Val d a) (k : Val e b) : ∃ f, d.product e = some f ∧ Val f (a * b) := by
  obtain ⟨s, m, q, rfl, hm, h1, h2⟩ := h
  obtain ⟨t, n, r, rfl, hn, k1, k2⟩ := k
  refine ⟨_, rfl, ?_⟩
  refine ⟨s ^^ t, m * n, q + r, by congr 1; omega, ?_, fun hl => ?_, fun hl => ?_⟩
  · rw [hm, hn, Int.natAbs_mul, Nat.pow_add]
    ac_rfl
  · rcases Int.lt_trichotomy a 0 with ha | ha | ha
    · rcases Int.lt_trichotomy b 0 with hb | hb | hb
      · have := Int.mul_pos_of_neg_of_neg ha hb; omega
      · subst hb; simp at hl
      · rw [h1 ha, k2 hb]; rfl
    · subst ha; simp at hl
    · rcases Int.lt_trichotomy b 0 with hb | hb | hb
      · rw [h2 ha, k1 hb]; rfl
      · subst hb; simp at hl
      · have := Int.mul_pos ha hb; omega
  · rcases Int.lt_trichotomy a 0 with ha | ha | ha
    · rcases Int.lt_trichotomy b 0 with hb | hb | hb
      · rw [h1 ha, k1 hb]; rfl
      · subst hb; simp at hl
      · have := Int.mul_neg_of_neg_of_pos ha hb; omega
    · subst ha; simp at hl
    · rcases Int.lt_trichotomy b 0 with hb | hb | hb
      · have := Int.mul_neg_of_pos_of_neg ha hb; omega
      · subst hb; simp at hl
      · rw [h2 ha, k2 hb]; rfl

theorem cut_exact (s : Bool) (K drop : Nat) (hK : 0 < K) : Toward.even.cut s (K * 2 ^ drop) drop = K := by
  unfold Toward.cut
  have hl : drop ≤ (K * 2 ^ drop).log2 + 2 := by
    have : drop ≤ (K * 2 ^ drop).log2 := (Nat.le_log2 (by have := Nat.two_pow_pos drop; exact Nat.ne_of_gt (Nat.mul_pos hK this))).2 (Nat.le_mul_of_pos_left _ hK)
    omega
  rw [Nat.min_eq_left hl]
  have hg : (1 : Nat) <<< drop = 2 ^ drop := by rw [Nat.shiftLeft_eq, Nat.one_mul]
  have hp := Nat.two_pow_pos drop
  simp only [hg, Nat.mul_mod_left, Nat.mul_div_cancel _ hp, Nat.mul_zero]
  have h1 : decide (2 ^ drop < 0) = false := by simp
  have h2 : (2 ^ drop == 0) = false := by simp
  rw [h1, h2]
  rfl
theorem double_nums : double.leastPlace = -1074 ∧ double.binade = 4503599627370496 ∧ double.infRung = 9218868437227405312 ∧ double.signWeight = 9223372036854775808 ∧ double.fractionBits = 52 := by
  refine ⟨by decide, by decide, by decide, by decide, rfl⟩
theorem log2_mul (N q : Nat) (h : 0 < N) : (N * 2 ^ q).log2 = N.log2 + q := by
  have hp := Nat.two_pow_pos q
  have hne : N * 2 ^ q ≠ 0 := Nat.ne_of_gt (Nat.mul_pos h hp)
  have h1 := Nat.log2_self_le (n := N) (by omega)
  have h2 := Nat.lt_log2_self (n := N)
  apply Nat.le_antisymm
  · apply Nat.le_of_lt_succ
    rw [Nat.log2_lt hne, show (N.log2 + q).succ = N.log2 + 1 + q by omega, Nat.pow_add]
    exact Nat.mul_lt_mul_of_pos_right h2 hp
  · rw [Nat.le_log2 hne, Nat.pow_add]
    exact Nat.mul_le_mul_right _ h1
/-- a whole number below 2^53, written and read -/
theorem write_read (s : Bool) (N q : Nat) (h : 0 < N) (hN : N < 9007199254740992) : double.read (double.write (.number s (N * 2 ^ q) (-(q : Int)))) = .number s (N * 2 ^ (52 - N.log2)) (-((52 - N.log2 : Nat) : Int)) := by
  obtain ⟨c1, c2, c3, c4, c5⟩ := double_nums
  have hne : N * 2 ^ q ≠ 0 := Nat.ne_of_gt (Nat.mul_pos h (Nat.two_pow_pos q))
  obtain ⟨L, hL⟩ : ∃ L, L = N.log2 := ⟨_, rfl⟩
  have hL52 : L ≤ 52 := by
    have : N.log2 < 53 := (Nat.log2_lt (by omega)).2 (by simpa using hN)
    omega
  have h1 : 2 ^ L ≤ N := by rw [hL]; exact Nat.log2_self_le (by omega)
  have h2 : N < 2 ^ (L + 1) := by rw [hL]; exact Nat.lt_log2_self
  obtain ⟨K, hK⟩ : ∃ K, K = N * 2 ^ (52 - L) := ⟨_, rfl⟩
  have hK1 : 4503599627370496 ≤ K := by
    have : 2 ^ L * 2 ^ (52 - L) ≤ K := by rw [hK]; exact Nat.mul_le_mul_right _ h1
    rw [← Nat.pow_add, show L + (52 - L) = 52 by omega] at this
    simpa using this
  have hK2 : K < 9007199254740992 := by
    have : K < 2 ^ (L + 1) * 2 ^ (52 - L) := by rw [hK]; exact Nat.mul_lt_mul_of_pos_right h2 (Nat.two_pow_pos _)
    rw [← Nat.pow_add, show L + 1 + (52 - L) = 53 by omega] at this
    simpa using this
  have hkept : Toward.even.cut s ((N * 2 ^ q) <<< (-(q : Int) - ((L : Int) - 52)).toNat) (((L : Int) - 52) - -(q : Int)).toNat = K := by
    by_cases hq : q ≤ 52 - L
    · rw [show (((L : Int) - 52) - -(q : Int)).toNat = 0 by omega, Nat.shiftLeft_eq, Nat.mul_assoc, ← Nat.pow_add, show q + (-(q : Int) - ((L : Int) - 52)).toNat = 52 - L by omega, ← hK]
      have := cut_exact s K 0 (by omega)
      simpa using this
    · rw [show (-(q : Int) - ((L : Int) - 52)).toNat = 0 by omega, show (((L : Int) - 52) - -(q : Int)).toNat = q - (52 - L) by omega, Nat.shiftLeft_zero]
      have e : N * 2 ^ q = K * 2 ^ (q - (52 - L)) := by
        rw [hK, Nat.mul_assoc, ← Nat.pow_add]; congr 2; omega
      rw [e]
      exact cut_exact s K _ (by omega)
  have hw : double.write (.number s (N * 2 ^ q) (-(q : Int))) = double.word s ((L + 1022) * 4503599627370496 + K) := by
    show double.nearest s (N * 2 ^ q) (-(q : Int)) = _
    unfold Format.nearest
    rw [if_neg hne]
    simp only [c1, c2, c3, c5, log2_mul N q h, ← hL]
    have hlast : max (-(q : Int) + ((L + q : Nat) : Int) - ((52 : Nat) : Int)) (-1074) = (L : Int) - 52 := by omega
    rw [hlast, hkept, show ((L : Int) - 52 - -1074).toNat = L + 1022 by omega, Nat.min_eq_left (by omega)]
  rw [hw]
  obtain ⟨f, hf⟩ : ∃ f, K = 4503599627370496 + f := ⟨K - 4503599627370496, by omega⟩
  have hr : (L + 1022) * 4503599627370496 + K = (L + 1023) * 4503599627370496 + f := by omega
  have hread : ∀ R : Nat, R = (L + 1023) * 4503599627370496 + f → double.read (double.word s R) = .number s K (-((52 - L : Nat) : Int)) := by
    intro R hR
    unfold Format.read Format.word
    simp only [c1, c2, c3, c4]
    have e1 : (if s = true then 9223372036854775808 + R else R) % 9223372036854775808 = R := by split <;> omega
    have e2 : ((if s = true then 9223372036854775808 + R else R) / 9223372036854775808 % 2 == 1) = s := by
      cases s
      · simp only [Bool.false_eq_true, if_false]
        rw [show R / 9223372036854775808 = 0 by omega]; rfl
      · simp only [if_true]
        rw [show (9223372036854775808 + R) / 9223372036854775808 = 1 by omega]; rfl
    rw [e1, e2, if_neg (by omega), if_pos (by omega)]
    have e3 : R % 4503599627370496 = f := by omega
    have e4 : R / 4503599627370496 = L + 1023 := by omega
    rw [e3, e4, ← hf]
    exact congrArg (Datum.number s K) (by omega)
  rw [hread _ hr, hK, hL]
theorem write_read0 (s : Bool) (p : Int) : double.read (double.write (.number s 0 p)) = .number s 0 (-((1074 : Nat) : Int)) := by
  show double.read (double.nearest s 0 p) = _
  unfold Format.nearest
  rw [if_pos rfl]
  cases s <;> rfl
theorem val_zero (s : Bool) (q : Nat) : Val (.number s 0 (-(q : Int))) 0 := ⟨s, 0, q, rfl, by rw [Int.natAbs_zero, Nat.zero_mul], fun h => by omega, fun h => by omega⟩
/-- these bits are this whole number -/
def Is (b : Nat) (n : Int) : Prop := Val (double.read b) n
theorem Val.write {d : Datum} {n : Int} (h : Val d n) (hn : n.natAbs < 9007199254740992) : Is (double.write d) n := by
  obtain ⟨s, m, q, rfl, hm, h1, h2⟩ := h
  subst hm
  by_cases h0 : n = 0
  · subst h0
    unfold Is
    rw [Int.natAbs_zero, Nat.zero_mul, write_read0]
    exact val_zero s 1074
  · unfold Is
    rw [write_read s n.natAbs q (by omega) hn]
    exact ⟨s, _, 52 - n.natAbs.log2, rfl, rfl, h1, h2⟩
theorem Is.add {x y : Nat} {a b : Int} (h : Is x a) (k : Is y b) (hn : (a + b).natAbs < 9007199254740992) : ∃ r, floatBits .add .f64 x y = some r ∧ Is r (a + b) := by
  obtain ⟨f, e, hf⟩ := Val.sum h k
  exact ⟨double.write f, by show ((double.read x).sum (double.read y)).map double.write = _; rw [e]; rfl, hf.write hn⟩
theorem Is.sub {x y : Nat} {a b : Int} (h : Is x a) (k : Is y b) (hn : (a - b).natAbs < 9007199254740992) : ∃ r, floatBits .sub .f64 x y = some r ∧ Is r (a - b) := by
  obtain ⟨f, e, hf⟩ := Val.sum h (Val.opposite k)
  exact ⟨double.write f, by show ((double.read x).sum (double.read y).opposite).map double.write = _; rw [e]; rfl, Val.write (by rw [Int.sub_eq_add_neg]; exact hf) hn⟩
theorem Is.mul {x y : Nat} {a b : Int} (h : Is x a) (k : Is y b) (hn : (a * b).natAbs < 9007199254740992) : ∃ r, floatBits .mul .f64 x y = some r ∧ Is r (a * b) := by
  obtain ⟨f, e, hf⟩ := Val.product h k
  exact ⟨double.write f, by show ((double.read x).product (double.read y)).map double.write = _; rw [e]; rfl, hf.write hn⟩
theorem Is.of_int (n : Int) (hn : n.natAbs < 9007199254740992) : Is (floatOfInt .f64 n) n :=
  Val.write (d := .number (decide (n < 0)) n.natAbs 0) ⟨decide (n < 0), n.natAbs, 0, rfl, by simp, fun h => decide_eq_true h, fun h => decide_eq_false (by omega)⟩ hn
theorem Val.toInt {d : Datum} {n : Int} (h : Val d n) : d.toInt .zero = some n := by
  obtain ⟨s, m, q, rfl, hm, h1, h2⟩ := h
  have hc : Toward.zero.cut s m q = n.natAbs := by
    unfold Toward.cut
    by_cases h0 : n.natAbs = 0
    · rw [hm, h0, Nat.zero_mul]; simp
    · have hp := Nat.two_pow_pos q
      have hl : q ≤ m.log2 + 2 := by
        rw [hm, log2_mul _ _ (by omega)]; omega
      rw [Nat.min_eq_left hl, Nat.shiftLeft_eq, Nat.one_mul, hm]
      simp [Nat.mul_div_cancel _ hp]
  unfold Datum.toInt Datum.integral
  simp only [show (-(q : Int)).toNat = 0 by omega, show (- -(q : Int)).toNat = q by omega, Nat.shiftLeft_zero, hc]
  have := signed_val 0 h1 h2 n.natAbs 0 (by simp)
  simpa using this
theorem Is.toInt {b : Nat} {n : Int} (h : Is b n) (h0 : -9223372036854775808 ≤ n) (h1 : n ≤ 9223372036854775807) : floatToIntVal .f64 b .i64 = some n := by
  have e : (FloatKind.f64.decode b).toInt .zero = some n := Val.toInt h
  unfold floatToIntVal
  rw [e]
  exact if_pos ⟨h0, h1⟩
/-- complex numbers of whole parts -/
theorem Is.csum {a b c d : Nat} {x y u v : Int} (ha : Is a x) (hb : Is b y) (hc : Is c u) (hd : Is d v) (h1 : (x + u).natAbs < 9007199254740992) (h2 : (y + v).natAbs < 9007199254740992) : ∃ re im, cSumBits .add .f64 a b c d = some (re, im) ∧ Is re (x + u) ∧ Is im (y + v) := by
  obtain ⟨re, e1, i1⟩ := ha.add hc h1
  obtain ⟨im, e2, i2⟩ := hb.add hd h2
  exact ⟨re, im, by unfold cSumBits; rw [e1, e2]; rfl, i1, i2⟩
theorem Is.cdif {a b c d : Nat} {x y u v : Int} (ha : Is a x) (hb : Is b y) (hc : Is c u) (hd : Is d v) (h1 : (x - u).natAbs < 9007199254740992) (h2 : (y - v).natAbs < 9007199254740992) : ∃ re im, cSumBits .sub .f64 a b c d = some (re, im) ∧ Is re (x - u) ∧ Is im (y - v) := by
  obtain ⟨re, e1, i1⟩ := ha.sub hc h1
  obtain ⟨im, e2, i2⟩ := hb.sub hd h2
  exact ⟨re, im, by unfold cSumBits; rw [e1, e2]; rfl, i1, i2⟩
theorem Is.cmul {a b c d : Nat} {x y u v : Int} (ha : Is a x) (hb : Is b y) (hc : Is c u) (hd : Is d v) (h1 : (x * u).natAbs < 9007199254740992) (h2 : (y * v).natAbs < 9007199254740992) (h3 : (x * u - y * v).natAbs < 9007199254740992) (h4 : (x * v).natAbs < 9007199254740992) (h5 : (y * u).natAbs < 9007199254740992) (h6 : (x * v + y * u).natAbs < 9007199254740992) :
    ∃ re im, cMulBits a b c d = some (re, im) ∧ Is re (x * u - y * v) ∧ Is im (x * v + y * u) := by
  obtain ⟨p1, e1, i1⟩ := ha.mul hc h1
  obtain ⟨p2, e2, i2⟩ := hb.mul hd h2
  obtain ⟨p3, e3, i3⟩ := i1.sub i2 h3
  obtain ⟨p4, e4, i4⟩ := ha.mul hd h4
  obtain ⟨p5, e5, i5⟩ := hb.mul hc h5
  obtain ⟨p6, e6, i6⟩ := i4.add i5 h6
  exact ⟨p3, p6, by unfold cMulBits; simp [e1, e2, e3, e4, e5, e6], i3, i6⟩

end Go.Proofs.YtenncfohifekhaaDoor
