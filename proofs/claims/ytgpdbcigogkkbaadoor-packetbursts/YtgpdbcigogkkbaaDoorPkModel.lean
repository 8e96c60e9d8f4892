/- Plain mathematics, no program in it: a packet, how it is written, and what any text says of one. -/
import Derived.Test.YtgpdbcigogkkbaaDoorText
import Derived.Test.YtgpdbcigogkkbaaDoorCrcBits
namespace Go.Proofs.YtgpdbcigogkkbaaDoor
open Slot

abbrev Bs := List UInt8
/-- a number in k bytes, the highest first -/
def be : Nat → Nat → Bs
  | 0, _ => []
  | k + 1, n => UInt8.ofNat (n / 256 ^ k) :: be k n
theorem be_len : ∀ k n, (be k n).length = k
  | 0, _ => rfl
  | k + 1, n => by rw [be, List.length_cons, be_len k n]
theorem be_get : ∀ (k n i : Nat), i < k → (be k n)[i]? = some (UInt8.ofNat (n / 256 ^ (k - 1 - i)))
  | 0, _, _, h => absurd h (Nat.not_lt_zero _)
  | k + 1, n, 0, _ => rfl
  | k + 1, n, i + 1, h => by
    rw [be, List.getElem?_cons_succ, be_get k n i (by omega)]
    rw [show k + 1 - 1 - (i + 1) = k - 1 - i by omega]
/-- the number of bytes -/
def nb (l : Bs) : Nat := l.foldl (fun n b => n * 256 + b.toNat) 0
theorem nb_acc : ∀ (k n a : Nat), (be k n).foldl (fun n b => n * 256 + b.toNat) a = a * 256 ^ k + n % 256 ^ k
  | 0, n, a => by simp [be, Nat.mod_one]
  | k + 1, n, a => by
    rw [be, List.foldl_cons, nb_acc k n, UInt8.toNat_ofNat']
    have h1 : 256 ^ (k + 1) = 256 * 256 ^ k := by rw [Nat.pow_succ, Nat.mul_comm]
    have h2 : n % (256 * 256 ^ k) = 256 ^ k * (n / 256 ^ k % 256) + n % 256 ^ k := by
      rw [Nat.mul_comm 256, Nat.mod_mul]; omega
    rw [h1, h2, Nat.add_mul, Nat.mul_assoc, show (2 : Nat) ^ 8 = 256 from rfl, Nat.mul_comm (n / 256 ^ k % 256), Nat.add_assoc]
theorem nb_be (k n : Nat) : nb (be k n) = n % 256 ^ k := by
  have := nb_acc k n 0
  simpa [nb] using this
theorem nb_lt : ∀ (l : Bs) (a k : Nat), a < 256 ^ k → l.foldl (fun n b => n * 256 + b.toNat) a < 256 ^ (k + l.length)
  | [], a, k, h => by simpa using h
  | b :: l, a, k, h => by
    rw [List.foldl_cons, List.length_cons, show k + (l.length + 1) = (k + 1) + l.length by omega]
    refine nb_lt l _ (k + 1) ?_
    have hb := b.toNat_lt
    rw [Nat.pow_succ]
    have : (a + 1) * 256 ≤ 256 ^ k * 256 := Nat.mul_le_mul_right _ h
    omega

/-! the writing of slots -/
theorem least {P : Nat → Prop} : ∀ n, P n → ∃ k, k ≤ n ∧ P k ∧ ∀ j, j < k → ¬ P j := fun n => by
  induction n using Nat.strongRecOn with
  | ind n ih =>
    intro h
    by_cases e : ∃ j, j < n ∧ P j
    · obtain ⟨j, hj, hp⟩ := e
      obtain ⟨k, h1, h2⟩ := ih j hj hp
      exact ⟨k, by omega, h2⟩
    · exact ⟨n, Nat.le_refl _, h, fun j hj hp => e ⟨j, hj, hp⟩⟩
theorem runs_from (S : Nat → Bool) : ∀ k m, top - m ≤ k → m ≤ top → ∃ l, Runs S m l
  | 0, m, h, hm => ⟨[], fun n h1 h2 => by omega⟩
  | k + 1, m, h, hm => by
    by_cases e : ∃ n, m ≤ n ∧ n < top ∧ S n = true
    · obtain ⟨n, hn⟩ := e
      obtain ⟨f, _, ⟨h1, h2, h3⟩, h4⟩ := least (P := fun n => m ≤ n ∧ n < top ∧ S n = true) n hn
      obtain ⟨t, _, ⟨h5, h6⟩, h7⟩ := least (P := fun t => f ≤ t ∧ (t + 1 < top → S (t + 1) = false)) (top - 1) ⟨by unfold top at *; omega, fun h => by unfold top at h; omega⟩
      have ht : t < top := by
        by_cases c : t < top
        · exact c
        · exact absurd ⟨by omega, fun h => by omega⟩ (h7 (t - 1) (by unfold top at *; omega))
      obtain ⟨l, hl⟩ := runs_from S k (t + 1) (by omega) (by omega)
      refine ⟨(f, t) :: l, h1, h5, ht, fun n a b => ?_, fun n a b => ?_, h6, hl⟩
      · cases c : S n
        · rfl
        · exact absurd ⟨a, by omega, c⟩ (h4 n b)
      · by_cases c : n = f
        · rw [c]; exact h3
        · have := h7 (n - 1) (by omega)
          cases d : S n
          · exact absurd ⟨by omega, fun _ => by rw [show n - 1 + 1 = n by omega]; exact d⟩ this
          · rfl
    · refine ⟨[], fun n h1 h2 => ?_⟩
      cases c : S n
      · rfl
      · exact absurd ⟨n, h1, h2, c⟩ e
theorem runs_ex (S : Nat → Bool) : ∃ l, Runs S 0 l := runs_from S top 0 (by omega) (by omega)
/-- a set's ranges -/
noncomputable def runsOf (S : Nat → Bool) : List (Nat × Nat) := Classical.choose (runs_ex S)
theorem runs_of (S : Nat → Bool) : Runs S 0 (runsOf S) := Classical.choose_spec (runs_ex S)
theorem runsOf_eq {S : Nat → Bool} {l : List (Nat × Nat)} (h : Runs S 0 l) : runsOf S = l := (runs_of S).unique h
/-- a set's writing -/
noncomputable def ctext (S : Nat → Bool) : Bs := print (runsOf S)
theorem ctext_eq {S : Nat → Bool} {l : List (Nat × Nat)} (h : Runs S 0 l) : print l = ctext S := by rw [ctext, runsOf_eq h]
theorem ctext_parse (S : Nat → Bool) : parseAll (ctext S) = some (runsOf S) := parseAll_print (runs_of S).chain
theorem ctext_set (S : Nat → Bool) (n : Nat) (h : n < top) : ofList (runsOf S) n = S n := (runs_of S).ofList n (Nat.zero_le _) h
theorem ctext_congr {S T : Nat → Bool} (h : ∀ n, n < top → S n = T n) : ctext S = ctext T := by
  rw [← ctext_eq ((runs_of S).congr fun n _ hn => h n hn)]; rfl
theorem ctext_inj {S T : Nat → Bool} (h : ctext S = ctext T) : ∀ n, n < top → S n = T n := fun n hn => by
  have h1 := ctext_parse S
  rw [h, ctext_parse T] at h1
  rw [← ctext_set S n hn, ← ctext_set T n hn, Option.some.inj h1]
theorem ctext_none : ctext (fun _ => false) = [] := by
  rw [← ctext_eq (l := []) (fun _ _ _ => rfl)]; rfl
theorem dec_few (k : Nat) : ∀ m, m < 10 ^ (k + 1) → (dec m).length ≤ k + 1 := by
  induction k with
  | zero => intro m hm; unfold dec; rw [Lib.decDigits, dif_pos (by omega)]; simp
  | succ k ih =>
    intro m hm
    unfold dec
    rw [Lib.decDigits]
    split
    · simp
    · have := ih (m / 10) (by rw [Nat.pow_succ] at hm; omega)
      rw [List.length_append]
      simp only [List.length_singleton]
      exact Nat.succ_le_succ this
/-- how much may yet come of the slots from m on -/
def phi (m : Nat) : Nat := 4 * (16386 - m) - (1000 - m)
theorem piece_phi (f t : Nat) (h1 : f ≤ t) (h2 : t < 16384) : (piece (f, t)).length + 1 + phi (t + 2) ≤ phi f := by
  have f5 := dec_few 4 f (by omega)
  have t5 := dec_few 4 t (by omega)
  have f3 : f < 1000 → (dec f).length ≤ 3 := fun h => dec_few 2 f (by omega)
  have t3 : t < 1000 → (dec t).length ≤ 3 := fun h => dec_few 2 t (by omega)
  unfold piece phi
  split
  · simp only [List.length_append, List.length_cons]
    by_cases a : f < 1000
    · have := f3 a
      by_cases b : t < 1000
      · have := t3 b; omega
      · omega
    · omega
  · simp only [List.length_append, List.length_nil]
    omega
theorem phi_mono {a b : Nat} (h : a ≤ b) : phi b ≤ phi a := by unfold phi; omega
theorem print_phi : ∀ (l : List (Nat × Nat)) (m : Nat), Chain m l → (print l).length ≤ phi m
  | [], m, _ => by simp [print]
  | [(f, t)], m, ⟨h1, h2, h3, _⟩ => by
    have := piece_phi f t h2 h3
    have b : phi f ≤ phi m := phi_mono h1
    simp only [print]; omega
  | (f, t) :: q :: l, m, ⟨h1, h2, h3, h4⟩ => by
    have a := piece_phi f t h2 h3
    have b : phi f ≤ phi m := phi_mono h1
    have c := print_phi (q :: l) (t + 2) h4
    simp only [print, List.length_append, List.length_cons] at c ⊢
    omega
theorem ctext_len (S : Nat → Bool) : (ctext S).length < 65536 := by
  have := print_phi _ _ (runs_of S).chain
  unfold ctext
  simp only [phi] at this
  omega

/-! packets -/
structure Pk where
  kind : Int
  frm : Int
  of_ : Int
  epoch : Nat
  cur : Nat
  cl : Nat → Bool
/-- P14.1 -/
def rightP (p : Pk) : Bool := decide ((p.kind = 1 ∨ p.kind = 2 ∨ p.kind = 3 ∨ p.kind = 4) ∧ (0 ≤ p.frm ∧ p.frm < 64) ∧ (0 ≤ p.of_ ∧ p.of_ < 64) ∧ (p.kind = 3 ∨ p.of_ = 0) ∧ p.epoch ≤ p.cur)
def sumN (n : Bs) : Nat := (Crc.more 0#16 (n.map UInt8.toBitVec)).toNat
theorem sumN_lt (n : Bs) : sumN n < 65536 := BitVec.isLt _
/-- what stands ahead of the claims -/
def front (p : Pk) (n : Nat) : Bs := be 1 p.kind.toNat ++ (be 1 p.frm.toNat ++ (be 1 p.of_.toNat ++ (be 8 p.epoch ++ (be 8 p.cur ++ be 2 n))))
noncomputable def headP (p : Pk) : Bs := front p (ctext p.cl).length ++ ctext p.cl
/-- P14.2 -/
noncomputable def enc (p : Pk) : Bs := headP p ++ be 2 (sumN (headP p))
theorem front_len (p : Pk) (n : Nat) : (front p n).length = 21 := by simp [front, be_len]
theorem enc_len (p : Pk) : (enc p).length = 23 + (ctext p.cl).length := by
  simp only [enc, headP, List.length_append, be_len, front_len]; omega
def setOf (s : Bs) : Nat → Bool := match parseAll s with
  | some l => ofList l
  | none => fun _ => false
/-- what the bytes of a text would say -/
def rdP (s : Bs) : Pk := ⟨((s.getD 0 0).toNat : Int), ((s.getD 1 0).toNat : Int), ((s.getD 2 0).toNat : Int), nb ((s.drop 3).take 8), nb ((s.drop 11).take 8), setOf ((s.drop 21).take (s.length - 23))⟩
open Classical in
/-- P14.3 -/
noncomputable def decP (s : Bs) : Option Pk := if 23 ≤ s.length ∧ rightP (rdP s) = true ∧ enc (rdP s) = s then some (rdP s) else none

def hiB (s : BitVec 16) : BitVec 8 := (s >>> 8).setWidth 8
def loB (s : BitVec 16) : BitVec 8 := s.setWidth 8
theorem hiB_xor (a b : BitVec 16) : hiB (a ^^^ b) = hiB a ^^^ hiB b := by
  apply BitVec.eq_of_getLsbD_eq
  intro i hi
  simp [hiB, hi]
theorem loB_xor (a b : BitVec 16) : loB (a ^^^ b) = loB a ^^^ loB b := by
  apply BitVec.eq_of_getLsbD_eq
  intro i hi
  simp [loB, hi]
theorem ends_zero (s : BitVec 16) : Crc.step (Crc.step s (hiB s)) (loB s) = 0#16 := by
  refine Crc.lin_ext (fun s => Crc.step (Crc.step s (hiB s)) (loB s)) (fun _ => 0#16) (fun a b => ?_) (fun a b => by simp) (by decide +kernel) (by decide +kernel) s
  show Crc.step (Crc.step (a ^^^ b) (hiB (a ^^^ b))) (loB (a ^^^ b)) = _
  rw [hiB_xor, loB_xor, Crc.step_xor, Crc.step_xor]
theorem step_two (c : BitVec 16) : Crc.more c ((be 2 c.toNat).map UInt8.toBitVec) = 0#16 := by
  have h := c.isLt
  have e1 : (UInt8.ofNat (c.toNat / 256 ^ 1)).toBitVec = hiB c := by
    apply BitVec.eq_of_toNat_eq
    show (UInt8.ofNat (c.toNat / 256 ^ 1)).toNat = _
    rw [UInt8.toNat_ofNat']
    simp [hiB, Nat.shiftRight_eq_div_pow]
  have e2 : (UInt8.ofNat (c.toNat / 256 ^ 0)).toBitVec = loB c := by
    apply BitVec.eq_of_toNat_eq
    show (UInt8.ofNat (c.toNat / 256 ^ 0)).toNat = _
    rw [UInt8.toNat_ofNat']
    simp [loB]
  have e : (be 2 c.toNat).map UInt8.toBitVec = [hiB c, loB c] := by rw [be, be, be, List.map_cons, List.map_cons, List.map_nil, e1, e2]
  rw [e]
  exact ends_zero c
theorem sum_two (l : Bs) : sumN (l ++ be 2 (sumN l)) = 0 := by
  have := step_two (Crc.more 0#16 (l.map UInt8.toBitVec))
  unfold sumN
  rw [List.map_append, Crc.more_append, this]
  rfl
theorem sum_enc (p : Pk) : sumN (enc p) = 0 := sum_two _

/-- the parts of a text: 21 bytes, more, and two -/
theorem mid_of (a t b : Bs) (ha : a.length = 21) (hb : b.length = 2) : ((a ++ t ++ b).drop 21).take ((a ++ t ++ b).length - 23) = t := by
  rw [List.append_assoc, List.drop_append_of_le_length (by omega), List.drop_of_length_le (by omega), List.nil_append]
  rw [show (a ++ (t ++ b)).length - 23 = t.length by simp only [List.length_append]; omega, List.take_left]
theorem get_app {a b : Bs} {i : Nat} (h : i < a.length) : (a ++ b).getD i 0 = a.getD i 0 := by
  simp [List.getD, List.getElem?_append_left h]
/-- alike but for slots that are none -/
def Like (p q : Pk) : Prop := p.kind = q.kind ∧ p.frm = q.frm ∧ p.of_ = q.of_ ∧ p.epoch = q.epoch ∧ p.cur = q.cur ∧ ∀ n, n < top → p.cl n = q.cl n
theorem Like.refl (p : Pk) : Like p p := ⟨rfl, rfl, rfl, rfl, rfl, fun _ _ => rfl⟩
theorem Like.symm {p q : Pk} (h : Like p q) : Like q p := ⟨h.1.symm, h.2.1.symm, h.2.2.1.symm, h.2.2.2.1.symm, h.2.2.2.2.1.symm, fun n hn => (h.2.2.2.2.2 n hn).symm⟩
theorem Like.trans {p q r : Pk} (h : Like p q) (k : Like q r) : Like p r := ⟨h.1.trans k.1, h.2.1.trans k.2.1, h.2.2.1.trans k.2.2.1, h.2.2.2.1.trans k.2.2.2.1, h.2.2.2.2.1.trans k.2.2.2.2.1, fun n hn => (h.2.2.2.2.2 n hn).trans (k.2.2.2.2.2 n hn)⟩
theorem Like.enc {p q : Pk} (h : Like p q) : enc p = enc q := by
  obtain ⟨h1, h2, h3, h4, h5, h6⟩ := h
  have : headP p = headP q := by unfold headP front; rw [h1, h2, h3, h4, h5, ctext_congr h6]
  unfold Go.Proofs.YtgpdbcigogkkbaaDoor.enc
  rw [this]
theorem Like.right {p q : Pk} (h : Like p q) : rightP p = rightP q := by
  obtain ⟨h1, h2, h3, h4, h5, h6⟩ := h
  unfold rightP; rw [h1, h2, h3, h4, h5]
theorem rightP_iff {p : Pk} : rightP p = true ↔ (p.kind = 1 ∨ p.kind = 2 ∨ p.kind = 3 ∨ p.kind = 4) ∧ (0 ≤ p.frm ∧ p.frm < 64) ∧ (0 ≤ p.of_ ∧ p.of_ < 64) ∧ (p.kind = 3 ∨ p.of_ = 0) ∧ p.epoch ≤ p.cur := by
  unfold rightP; exact decide_eq_true_iff
theorem setOf_ctext (S : Nat → Bool) (n : Nat) (h : n < top) : setOf (ctext S) n = S n := by
  unfold setOf; rw [ctext_parse]; exact ctext_set S n h
/-- what was written says what it was -/
theorem rd_enc {p : Pk} (hr : rightP p = true) (he : p.epoch < 256 ^ 8) (hc : p.cur < 256 ^ 8) : Like (rdP (enc p)) p := by
  obtain ⟨hk, hf, ho, _⟩ := rightP_iff.1 hr
  have hs : enc p = be 1 p.kind.toNat ++ (be 1 p.frm.toNat ++ (be 1 p.of_.toNat ++ (be 8 p.epoch ++ (be 8 p.cur ++ (be 2 (ctext p.cl).length ++ (ctext p.cl ++ be 2 (sumN (headP p)))))))) := by
    simp only [enc, headP, front, List.append_assoc]
  have h1 : ∀ n, be 1 n = [UInt8.ofNat n] := fun n => by simp [be]
  have hb : ∀ z : Int, 0 ≤ z → z < 64 → ((UInt8.ofNat z.toNat).toNat : Int) = z := fun z a b => by
    rw [UInt8.toNat_ofNat']; omega
  refine ⟨?_, ?_, ?_, ?_, ?_, fun n hn => ?_⟩
  · rw [hs, h1]
    exact hb _ (by omega) (by omega)
  · rw [hs, h1, h1]
    exact hb _ hf.1 hf.2
  · rw [hs, h1, h1, h1]
    exact hb _ ho.1 ho.2
  · show nb (((enc p).drop 3).take 8) = _
    rw [hs, h1, h1, h1]
    simp only [List.cons_append, List.nil_append, List.drop_succ_cons, List.drop_zero]
    rw [List.take_append_of_le_length (by rw [be_len]; omega), List.take_of_length_le (by rw [be_len]; omega), nb_be, Nat.mod_eq_of_lt he]
  · show nb (((enc p).drop 11).take 8) = _
    rw [hs, h1, h1, h1]
    simp only [List.cons_append, List.nil_append, List.drop_succ_cons]
    rw [List.drop_append_of_le_length (by rw [be_len]; omega), List.drop_of_length_le (by rw [be_len]; omega), List.nil_append]
    rw [List.take_append_of_le_length (by rw [be_len]; omega), List.take_of_length_le (by rw [be_len]; omega), nb_be, Nat.mod_eq_of_lt hc]
  · show setOf (((enc p).drop 21).take ((enc p).length - 23)) n = _
    have : enc p = front p (ctext p.cl).length ++ ctext p.cl ++ be 2 (sumN (headP p)) := rfl
    rw [this, mid_of _ _ _ (front_len _ _) (be_len _ _)]
    exact setOf_ctext _ n hn
/-- P14.4: what was written is read -/
theorem dec_enc {p : Pk} (hr : rightP p = true) (he : p.epoch < 256 ^ 8) (hc : p.cur < 256 ^ 8) : decP (enc p) = some (rdP (enc p)) := by
  have h := rd_enc hr he hc
  unfold decP
  rw [if_pos ⟨by rw [enc_len]; omega, by rw [h.right]; exact hr, h.enc⟩]
theorem dec_some {s : Bs} {p : Pk} (h : decP s = some p) : 23 ≤ s.length ∧ rightP p = true ∧ enc p = s ∧ p = rdP s := by
  unfold decP at h
  split at h
  · rename_i c
    obtain rfl := Option.some.inj h
    exact ⟨c.1, c.2.1, c.2.2, rfl⟩
  · cases h
/-- a text of another sum than 0 is no packet's -/
theorem dec_sum {s : Bs} (h : sumN s ≠ 0) : decP s = none := by
  cases e : decP s with
  | none => rfl
  | some p => exact absurd (by rw [← (dec_some e).2.2.1]; exact sum_enc p) h
theorem dec_short {s : Bs} (h : s.length < 23) : decP s = none := by
  unfold decP; rw [if_neg (fun c => by omega)]
/-- what stands at the places 19 and 20 tells how long a writing is -/
theorem enc_tells (p : Pk) : (enc p).length = 23 + (((enc p).getD 19 0).toNat * 256 + ((enc p).getD 20 0).toNat) := by
  have hl := ctext_len p.cl
  have hs : enc p = (be 1 p.kind.toNat ++ be 1 p.frm.toNat ++ be 1 p.of_.toNat ++ be 8 p.epoch ++ be 8 p.cur) ++ (be 2 (ctext p.cl).length ++ (ctext p.cl ++ be 2 (sumN (headP p)))) := by
    simp only [enc, headP, front, List.append_assoc]
  have hA : (be 1 p.kind.toNat ++ be 1 p.frm.toNat ++ be 1 p.of_.toNat ++ be 8 p.epoch ++ be 8 p.cur).length = 19 := by simp [be_len]
  rw [enc_len, hs]
  generalize be 1 p.kind.toNat ++ be 1 p.frm.toNat ++ be 1 p.of_.toNat ++ be 8 p.epoch ++ be 8 p.cur = A at hA
  generalize (ctext p.cl).length = n at hl
  have h2 : be 2 n = [UInt8.ofNat (n / 256), UInt8.ofNat n] := by simp [be]
  have g : ∀ i, (A ++ (be 2 n ++ (ctext p.cl ++ be 2 (sumN (headP p))))).getD (19 + i) 0 = (be 2 n ++ (ctext p.cl ++ be 2 (sumN (headP p)))).getD i 0 := fun i => by
    simp only [List.getD]
    rw [List.getElem?_append_right (by omega), show 19 + i - A.length = i by omega]
  have g0 := g 0
  have g1 := g 1
  rw [Nat.add_zero] at g0
  rw [g0, show (20 : Nat) = 19 + 1 from rfl, g1, h2]
  show 23 + n = 23 + ((UInt8.ofNat (n / 256)).toNat * 256 + (UInt8.ofNat n).toNat)
  rw [UInt8.toNat_ofNat', UInt8.toNat_ofNat']
  omega
theorem dec_tells {s : Bs} (h : decP s ≠ none) : s.length = 23 + ((s.getD 19 0).toNat * 256 + (s.getD 20 0).toNat) := by
  cases e : decP s with
  | none => exact absurd e h
  | some p =>
    have := enc_tells p
    rwa [(dec_some e).2.2.1] at this
theorem dec_cut (p : Pk) (n : Nat) (h : n < (enc p).length) : decP ((enc p).take n) = none := by
  by_cases h23 : n < 23
  · exact dec_short (by rw [List.length_take]; omega)
  · cases e : decP ((enc p).take n) with
    | none => rfl
    | some q =>
      have h1 := dec_tells (s := (enc p).take n) (by rw [e]; simp)
      have h2 := enc_tells p
      have g : ∀ i, i < n → ((enc p).take n).getD i 0 = (enc p).getD i 0 := fun i hi => by
        simp only [List.getD]; rw [List.getElem?_take_of_lt hi]
      rw [g 19 (by omega), g 20 (by omega), List.length_take] at h1
      omega
theorem dec_more (p : Pk) (m : Bs) (h : m ≠ []) : decP (enc p ++ m) = none := by
  cases e : decP (enc p ++ m) with
  | none => rfl
  | some q =>
    have h1 := dec_tells (s := enc p ++ m) (by rw [e]; simp)
    have h2 := enc_tells p
    have h3 := enc_len p
    rw [get_app (by omega), get_app (by omega), List.length_append] at h1
    have := List.length_pos_iff.2 h
    omega
theorem enc_inj {p q : Pk} (hp : rightP p = true) (hq : rightP q = true) (h1 : p.epoch < 256 ^ 8) (h2 : p.cur < 256 ^ 8) (h3 : q.epoch < 256 ^ 8) (h4 : q.cur < 256 ^ 8) (h : enc p = enc q) : Like p q := by
  have a := rd_enc hp h1 h2
  have b := rd_enc hq h3 h4
  rw [h] at a
  exact a.symm.trans b
/-- claims that are none's writing are no packet's -/
theorem parse_none {s : Bs} (hn : parseAll ((s.drop 21).take (s.length - 23)) = none) : enc (rdP s) ≠ s := fun e => by
  have hc : (rdP s).cl = fun _ => false := by
    show setOf _ = _
    unfold setOf; rw [hn]
  have hl := enc_len (rdP s)
  rw [hc, ctext_none, e] at hl
  rw [hl] at hn
  simp [parseAll] at hn
theorem dec_bad {s : Bs} (h : ¬ (rightP (rdP s) = true ∧ enc (rdP s) = s)) : decP s = none := by
  unfold decP; rw [if_neg (fun c => h c.2)]
theorem dec_good {s : Bs} (h0 : 23 ≤ s.length) (h1 : rightP (rdP s) = true) (h2 : enc (rdP s) = s) : decP s = some (rdP s) := by
  unfold decP; rw [if_pos ⟨h0, h1, h2⟩]

end Go.Proofs.YtgpdbcigogkkbaaDoor
