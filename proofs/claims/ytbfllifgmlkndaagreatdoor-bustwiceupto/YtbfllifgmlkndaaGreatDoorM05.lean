/- PkModel, ShelfJ, VwModel, OpenBits. -/
import Derived.Test.YtbfllifgmlkndaaGreatDoorM02
import Derived.Shelf.Strings.OnBuilder
import Derived.ProofKit
import Derived.OpenShut
import Derived.RowKit
import Derived.Test.YtbfllifgmlkndaaGreatDoorM04
namespace Go.Proofs.YtbfllifgmlkndaaGreatDoor
open Slot

abbrev Bs := List UInt8
/-- a number in k bytes, the highest first -/
def be : Nat → Nat → Bs
  | 0, _ => []
  | k + 1, n => UInt8.ofNat (n / 256 ^ k) :: be k n
theorem be_len : ∀ k n, (be k n).length = k
  | 0, _ => rfl
  | k + 1, n => by rw [be, List.length_cons, be_len k n]
theorem be_get : ∀ (k n i : Nat), i < k → (be k n)[i]? = some (UInt8.ofNat (n / 256 ^ (k - 1 - i)))
  | 0, _, _, h => absurd h (Nat.not_lt_zero _)
  | k + 1, n, 0, _ => rfl
  | k + 1, n, i + 1, h => by
    rw [be, List.getElem?_cons_succ, be_get k n i (by omega)]
    rw [show k + 1 - 1 - (i + 1) = k - 1 - i by omega]
/-- the number of bytes -/
def nb (l : Bs) : Nat := l.foldl (fun n b => n * 256 + b.toNat) 0
theorem nb_acc : ∀ (k n a : Nat), (be k n).foldl (fun n b => n * 256 + b.toNat) a = a * 256 ^ k + n % 256 ^ k
  | 0, n, a => by simp [be, Nat.mod_one]
  | k + 1, n, a => by
    rw [be, List.foldl_cons, nb_acc k n, UInt8.toNat_ofNat']
    have h1 : 256 ^ (k + 1) = 256 * 256 ^ k := by rw [Nat.pow_succ, Nat.mul_comm]
    have h2 : n % (256 * 256 ^ k) = 256 ^ k * (n / 256 ^ k % 256) + n % 256 ^ k := by
      rw [Nat.mul_comm 256, Nat.mod_mul]; omega
    rw [h1, h2, Nat.add_mul, Nat.mul_assoc, show (2 : Nat) ^ 8 = 256 from rfl, Nat.mul_comm (n / 256 ^ k % 256), Nat.add_assoc]
theorem nb_be (k n : Nat) : nb (be k n) = n % 256 ^ k := by
  have := nb_acc k n 0
  simpa [nb] using this
theorem nb_lt : ∀ (l : Bs) (a k : Nat), a < 256 ^ k → l.foldl (fun n b => n * 256 + b.toNat) a < 256 ^ (k + l.length)
  | [], a, k, h => by simpa using h
  | b :: l, a, k, h => by
    rw [List.foldl_cons, List.length_cons, show k + (l.length + 1) = (k + 1) + l.length by omega]
    refine nb_lt l _ (k + 1) ?_
    have hb := b.toNat_lt
    rw [Nat.pow_succ]
    have : (a + 1) * 256 ≤ 256 ^ k * 256 := Nat.mul_le_mul_right _ h
    omega

/-! the writing of slots -/
theorem least {P : Nat → Prop} : ∀ n, P n → ∃ k, k ≤ n ∧ P k ∧ ∀ j, j < k → ¬ P j := fun n => by
  induction n using Nat.strongRecOn with
  | ind n ih =>
    intro h
    by_cases e : ∃ j, j < n ∧ P j
    · obtain ⟨j, hj, hp⟩ := e
      obtain ⟨k, h1, h2⟩ := ih j hj hp
      exact ⟨k, by omega, h2⟩
    · exact ⟨n, Nat.le_refl _, h, fun j hj hp => e ⟨j, hj, hp⟩⟩
theorem runs_from (S : Nat → Bool) : ∀ k m, top - m ≤ k → m ≤ top → ∃ l, Runs S m l
  | 0, m, h, hm => ⟨[], fun n h1 h2 => by omega⟩
  | k + 1, m, h, hm => by
    by_cases e : ∃ n, m ≤ n ∧ n < top ∧ S n = true
    · obtain ⟨n, hn⟩ := e
      obtain ⟨f, _, ⟨h1, h2, h3⟩, h4⟩ := least (P := fun n => m ≤ n ∧ n < top ∧ S n = true) n hn
      obtain ⟨t, _, ⟨h5, h6⟩, h7⟩ := least (P := fun t => f ≤ t ∧ (t + 1 < top → S (t + 1) = false)) (top - 1) ⟨by unfold top at *; omega, fun h => by unfold top at h; omega⟩
      have ht : t < top := by
        by_cases c : t < top
        · exact c
        · exact absurd ⟨by omega, fun h => by omega⟩ (h7 (t - 1) (by unfold top at *; omega))
      obtain ⟨l, hl⟩ := runs_from S k (t + 1) (by omega) (by omega)
      refine ⟨(f, t) :: l, h1, h5, ht, fun n a b => ?_, fun n a b => ?_, h6, hl⟩
      · cases c : S n
        · rfl
        · exact absurd ⟨a, by omega, c⟩ (h4 n b)
      · by_cases c : n = f
        · rw [c]; exact h3
        · have := h7 (n - 1) (by omega)
          cases d : S n
          · exact absurd ⟨by omega, fun _ => by rw [show n - 1 + 1 = n by omega]; exact d⟩ this
          · rfl
    · refine ⟨[], fun n h1 h2 => ?_⟩
      cases c : S n
      · rfl
      · exact absurd ⟨n, h1, h2, c⟩ e
theorem runs_ex (S : Nat → Bool) : ∃ l, Runs S 0 l := runs_from S top 0 (by omega) (by omega)
/-- a set's ranges -/
noncomputable def runsOf (S : Nat → Bool) : List (Nat × Nat) := Classical.choose (runs_ex S)
theorem runs_of (S : Nat → Bool) : Runs S 0 (runsOf S) := Classical.choose_spec (runs_ex S)
theorem runsOf_eq {S : Nat → Bool} {l : List (Nat × Nat)} (h : Runs S 0 l) : runsOf S = l := (runs_of S).unique h
/-- a set's writing -/
noncomputable def ctext (S : Nat → Bool) : Bs := print (runsOf S)
theorem ctext_eq {S : Nat → Bool} {l : List (Nat × Nat)} (h : Runs S 0 l) : print l = ctext S := by rw [ctext, runsOf_eq h]
theorem ctext_parse (S : Nat → Bool) : parseAll (ctext S) = some (runsOf S) := parseAll_print (runs_of S).chain
theorem ctext_set (S : Nat → Bool) (n : Nat) (h : n < top) : ofList (runsOf S) n = S n := (runs_of S).ofList n (Nat.zero_le _) h
theorem ctext_congr {S T : Nat → Bool} (h : ∀ n, n < top → S n = T n) : ctext S = ctext T := by
  rw [← ctext_eq ((runs_of S).congr fun n _ hn => h n hn)]; rfl
theorem ctext_none : ctext (fun _ => false) = [] := by
  rw [← ctext_eq (l := []) (fun _ _ _ => rfl)]; rfl
theorem dec_few (k : Nat) : ∀ m, m < 10 ^ (k + 1) → (dec m).length ≤ k + 1 := by
  induction k with
  | zero => intro m hm; unfold dec; rw [Lib.decDigits, dif_pos (by omega)]; simp
  | succ k ih =>
    intro m hm
    unfold dec
    rw [Lib.decDigits]
    split
    · simp
    · have := ih (m / 10) (by rw [Nat.pow_succ] at hm; omega)
      rw [List.length_append]
      simp only [List.length_singleton]
      exact Nat.succ_le_succ this
/-- how much may yet come of the slots from m on -/
def phi (m : Nat) : Nat := 4 * (16386 - m) - (1000 - m)
theorem piece_phi (f t : Nat) (h1 : f ≤ t) (h2 : t < 16384) : (piece (f, t)).length + 1 + phi (t + 2) ≤ phi f := by
  have f5 := dec_few 4 f (by omega)
  have t5 := dec_few 4 t (by omega)
  have f3 : f < 1000 → (dec f).length ≤ 3 := fun h => dec_few 2 f (by omega)
  have t3 : t < 1000 → (dec t).length ≤ 3 := fun h => dec_few 2 t (by omega)
  unfold piece phi
  split
  · simp only [List.length_append, List.length_cons]
    by_cases a : f < 1000
    · have := f3 a
      by_cases b : t < 1000
      · have := t3 b; omega
      · omega
    · omega
  · simp only [List.length_append, List.length_nil]
    omega
theorem phi_mono {a b : Nat} (h : a ≤ b) : phi b ≤ phi a := by unfold phi; omega
theorem print_phi : ∀ (l : List (Nat × Nat)) (m : Nat), Chain m l → (print l).length ≤ phi m
  | [], m, _ => by simp [print]
  | [(f, t)], m, ⟨h1, h2, h3, _⟩ => by
    have := piece_phi f t h2 h3
    have b : phi f ≤ phi m := phi_mono h1
    simp only [print]; omega
  | (f, t) :: q :: l, m, ⟨h1, h2, h3, h4⟩ => by
    have a := piece_phi f t h2 h3
    have b : phi f ≤ phi m := phi_mono h1
    have c := print_phi (q :: l) (t + 2) h4
    simp only [print, List.length_append, List.length_cons] at c ⊢
    omega
theorem ctext_len (S : Nat → Bool) : (ctext S).length < 65536 := by
  have := print_phi _ _ (runs_of S).chain
  unfold ctext
  simp only [phi] at this
  omega

/-! packets -/
structure Pk where
  kind : Int
  frm : Int
  of_ : Int
  epoch : Nat
  cur : Nat
  cl : Nat → Bool
/-- P14.1 -/
def rightP (p : Pk) : Bool := decide ((p.kind = 1 ∨ p.kind = 2 ∨ p.kind = 3 ∨ p.kind = 4) ∧ (0 ≤ p.frm ∧ p.frm < 64) ∧ (0 ≤ p.of_ ∧ p.of_ < 64) ∧ (p.kind = 3 ∨ p.of_ = 0) ∧ p.epoch ≤ p.cur)
def sumN (n : Bs) : Nat := (Crc.more 0#16 (n.map UInt8.toBitVec)).toNat
theorem sumN_lt (n : Bs) : sumN n < 65536 := BitVec.isLt _
/-- what stands ahead of the claims -/
def front (p : Pk) (n : Nat) : Bs := be 1 p.kind.toNat ++ (be 1 p.frm.toNat ++ (be 1 p.of_.toNat ++ (be 8 p.epoch ++ (be 8 p.cur ++ be 2 n))))
noncomputable def headP (p : Pk) : Bs := front p (ctext p.cl).length ++ ctext p.cl
/-- P14.2 -/
noncomputable def enc (p : Pk) : Bs := headP p ++ be 2 (sumN (headP p))
theorem front_len (p : Pk) (n : Nat) : (front p n).length = 21 := by simp [front, be_len]
theorem enc_len (p : Pk) : (enc p).length = 23 + (ctext p.cl).length := by
  simp only [enc, headP, List.length_append, be_len, front_len]; omega
def setOf (s : Bs) : Nat → Bool := match parseAll s with
  | some l => ofList l
  | none => fun _ => false
/-- what the bytes of a text would say -/
def rdP (s : Bs) : Pk := ⟨((s.getD 0 0).toNat : Int), ((s.getD 1 0).toNat : Int), ((s.getD 2 0).toNat : Int), nb ((s.drop 3).take 8), nb ((s.drop 11).take 8), setOf ((s.drop 21).take (s.length - 23))⟩
open Classical in
/-- P14.3 -/
noncomputable def decP (s : Bs) : Option Pk := if 23 ≤ s.length ∧ rightP (rdP s) = true ∧ enc (rdP s) = s then some (rdP s) else none

def hiB (s : BitVec 16) : BitVec 8 := (s >>> 8).setWidth 8
def loB (s : BitVec 16) : BitVec 8 := s.setWidth 8
theorem hiB_xor (a b : BitVec 16) : hiB (a ^^^ b) = hiB a ^^^ hiB b := by
  apply BitVec.eq_of_getLsbD_eq
  intro i hi
  simp [hiB, hi]
theorem loB_xor (a b : BitVec 16) : loB (a ^^^ b) = loB a ^^^ loB b := by
  apply BitVec.eq_of_getLsbD_eq
  intro i hi
  simp [loB, hi]
theorem ends_zero (s : BitVec 16) : Crc.step (Crc.step s (hiB s)) (loB s) = 0#16 := by
  refine Crc.lin_ext (fun s => Crc.step (Crc.step s (hiB s)) (loB s)) (fun _ => 0#16) (fun a b => ?_) (fun a b => by simp) (by decide +kernel) (by decide +kernel) s
  show Crc.step (Crc.step (a ^^^ b) (hiB (a ^^^ b))) (loB (a ^^^ b)) = _
  rw [hiB_xor, loB_xor, Crc.step_xor, Crc.step_xor]
theorem step_two (c : BitVec 16) : Crc.more c ((be 2 c.toNat).map UInt8.toBitVec) = 0#16 := by
  have h := c.isLt
  have e1 : (UInt8.ofNat (c.toNat / 256 ^ 1)).toBitVec = hiB c := by
    apply BitVec.eq_of_toNat_eq
    show (UInt8.ofNat (c.toNat / 256 ^ 1)).toNat = _
    rw [UInt8.toNat_ofNat']
    simp [hiB, Nat.shiftRight_eq_div_pow]
  have e2 : (UInt8.ofNat (c.toNat / 256 ^ 0)).toBitVec = loB c := by
    apply BitVec.eq_of_toNat_eq
    show (UInt8.ofNat (c.toNat / 256 ^ 0)).toNat = _
    rw [UInt8.toNat_ofNat']
    simp [loB]
  have e : (be 2 c.toNat).map UInt8.toBitVec = [hiB c, loB c] := by rw [be, be, be, List.map_cons, List.map_cons, List.map_nil, e1, e2]
  rw [e]
  exact ends_zero c
theorem sum_two (l : Bs) : sumN (l ++ be 2 (sumN l)) = 0 := by
  have := step_two (Crc.more 0#16 (l.map UInt8.toBitVec))
  unfold sumN
  rw [List.map_append, Crc.more_append, this]
  rfl
theorem sum_enc (p : Pk) : sumN (enc p) = 0 := sum_two _

/-- the parts of a text: 21 bytes, more, and two -/
theorem mid_of (a t b : Bs) (ha : a.length = 21) (hb : b.length = 2) : ((a ++ t ++ b).drop 21).take ((a ++ t ++ b).length - 23) = t := by
  rw [List.append_assoc, List.drop_append_of_le_length (by omega), List.drop_of_length_le (by omega), List.nil_append]
  rw [show (a ++ (t ++ b)).length - 23 = t.length by simp only [List.length_append]; omega, List.take_left]
/-- alike but for slots that are none -/
def Like (p q : Pk) : Prop := p.kind = q.kind ∧ p.frm = q.frm ∧ p.of_ = q.of_ ∧ p.epoch = q.epoch ∧ p.cur = q.cur ∧ ∀ n, n < top → p.cl n = q.cl n
theorem Like.refl (p : Pk) : Like p p := ⟨rfl, rfl, rfl, rfl, rfl, fun _ _ => rfl⟩
theorem Like.symm {p q : Pk} (h : Like p q) : Like q p := ⟨h.1.symm, h.2.1.symm, h.2.2.1.symm, h.2.2.2.1.symm, h.2.2.2.2.1.symm, fun n hn => (h.2.2.2.2.2 n hn).symm⟩
theorem Like.trans {p q r : Pk} (h : Like p q) (k : Like q r) : Like p r := ⟨h.1.trans k.1, h.2.1.trans k.2.1, h.2.2.1.trans k.2.2.1, h.2.2.2.1.trans k.2.2.2.1, h.2.2.2.2.1.trans k.2.2.2.2.1, fun n hn => (h.2.2.2.2.2 n hn).trans (k.2.2.2.2.2 n hn)⟩
theorem Like.enc {p q : Pk} (h : Like p q) : enc p = enc q := by
  obtain ⟨h1, h2, h3, h4, h5, h6⟩ := h
  have : headP p = headP q := by unfold headP front; rw [h1, h2, h3, h4, h5, ctext_congr h6]
  unfold Go.Proofs.YtbfllifgmlkndaaGreatDoor.enc
  rw [this]
theorem Like.right {p q : Pk} (h : Like p q) : rightP p = rightP q := by
  obtain ⟨h1, h2, h3, h4, h5, h6⟩ := h
  unfold rightP; rw [h1, h2, h3, h4, h5]
theorem rightP_iff {p : Pk} : rightP p = true ↔ (p.kind = 1 ∨ p.kind = 2 ∨ p.kind = 3 ∨ p.kind = 4) ∧ (0 ≤ p.frm ∧ p.frm < 64) ∧ (0 ≤ p.of_ ∧ p.of_ < 64) ∧ (p.kind = 3 ∨ p.of_ = 0) ∧ p.epoch ≤ p.cur := by
  unfold rightP; exact decide_eq_true_iff
theorem setOf_ctext (S : Nat → Bool) (n : Nat) (h : n < top) : setOf (ctext S) n = S n := by
  unfold setOf; rw [ctext_parse]; exact ctext_set S n h
/-- what was written says what it was -/
theorem rd_enc {p : Pk} (hr : rightP p = true) (he : p.epoch < 256 ^ 8) (hc : p.cur < 256 ^ 8) : Like (rdP (enc p)) p := by
  obtain ⟨hk, hf, ho, _⟩ := rightP_iff.1 hr
  have hs : enc p = be 1 p.kind.toNat ++ (be 1 p.frm.toNat ++ (be 1 p.of_.toNat ++ (be 8 p.epoch ++ (be 8 p.cur ++ (be 2 (ctext p.cl).length ++ (ctext p.cl ++ be 2 (sumN (headP p)))))))) := by
    simp only [enc, headP, front, List.append_assoc]
  have h1 : ∀ n, be 1 n = [UInt8.ofNat n] := fun n => by simp [be]
  have hb : ∀ z : Int, 0 ≤ z → z < 64 → ((UInt8.ofNat z.toNat).toNat : Int) = z := fun z a b => by
    rw [UInt8.toNat_ofNat']; omega
  refine ⟨?_, ?_, ?_, ?_, ?_, fun n hn => ?_⟩
  · rw [hs, h1]
    exact hb _ (by omega) (by omega)
  · rw [hs, h1, h1]
    exact hb _ hf.1 hf.2
  · rw [hs, h1, h1, h1]
    exact hb _ ho.1 ho.2
  · show nb (((enc p).drop 3).take 8) = _
    rw [hs, h1, h1, h1]
    simp only [List.cons_append, List.nil_append, List.drop_succ_cons, List.drop_zero]
    rw [List.take_append_of_le_length (by rw [be_len]; omega), List.take_of_length_le (by rw [be_len]; omega), nb_be, Nat.mod_eq_of_lt he]
  · show nb (((enc p).drop 11).take 8) = _
    rw [hs, h1, h1, h1]
    simp only [List.cons_append, List.nil_append, List.drop_succ_cons]
    rw [List.drop_append_of_le_length (by rw [be_len]; omega), List.drop_of_length_le (by rw [be_len]; omega), List.nil_append]
    rw [List.take_append_of_le_length (by rw [be_len]; omega), List.take_of_length_le (by rw [be_len]; omega), nb_be, Nat.mod_eq_of_lt hc]
  · show setOf (((enc p).drop 21).take ((enc p).length - 23)) n = _
    have : enc p = front p (ctext p.cl).length ++ ctext p.cl ++ be 2 (sumN (headP p)) := rfl
    rw [this, mid_of _ _ _ (front_len _ _) (be_len _ _)]
    exact setOf_ctext _ n hn
/-- P14.4: what was written is read -/
theorem dec_enc {p : Pk} (hr : rightP p = true) (he : p.epoch < 256 ^ 8) (hc : p.cur < 256 ^ 8) : decP (enc p) = some (rdP (enc p)) := by
  have h := rd_enc hr he hc
  unfold decP
  rw [if_pos ⟨by rw [enc_len]; omega, by rw [h.right]; exact hr, h.enc⟩]
theorem dec_some {s : Bs} {p : Pk} (h : decP s = some p) : 23 ≤ s.length ∧ rightP p = true ∧ enc p = s ∧ p = rdP s := by
  unfold decP at h
  split at h
  · rename_i c
    obtain rfl := Option.some.inj h
    exact ⟨c.1, c.2.1, c.2.2, rfl⟩
  · cases h
/-- a text of another sum than 0 is no packet's -/
theorem dec_sum {s : Bs} (h : sumN s ≠ 0) : decP s = none := by
  cases e : decP s with
  | none => rfl
  | some p => exact absurd (by rw [← (dec_some e).2.2.1]; exact sum_enc p) h
theorem dec_short {s : Bs} (h : s.length < 23) : decP s = none := by
  unfold decP; rw [if_neg (fun c => by omega)]
/-- claims that are none's writing are no packet's -/
theorem parse_none {s : Bs} (hn : parseAll ((s.drop 21).take (s.length - 23)) = none) : enc (rdP s) ≠ s := fun e => by
  have hc : (rdP s).cl = fun _ => false := by
    show setOf _ = _
    unfold setOf; rw [hn]
  have hl := enc_len (rdP s)
  rw [hc, ctext_none, e] at hl
  rw [hl] at hn
  simp [parseAll] at hn
theorem dec_bad {s : Bs} (h : ¬ (rightP (rdP s) = true ∧ enc (rdP s) = s)) : decP s = none := by
  unfold decP; rw [if_neg (fun c => h c.2)]
theorem dec_good {s : Bs} (h0 : 23 ≤ s.length) (h1 : rightP (rdP s) = true) (h2 : enc (rdP s) = s) : decP s = some (rdP s) := by
  unfold decP; rw [if_pos ⟨h0, h1, h2⟩]

end Go.Proofs.YtbfllifgmlkndaaGreatDoor

namespace Go.Proofs.YtbfllifgmlkndaaGreatDoor
open Go.Shelf
theorem Tryz.Builder_Extra_156 : Builder.Extra Tryz.prog Tryz.lays156_ren := {
  sizeBuilder := by kernel_rfl
  liesBuilder := by kernel_rfl
  t5 := Tryz.underlying5
  a5 := Tryz.isAgg5
  z5 := Tryz.sizeOf5
  v5 := Tryz.zeroValue5
  infoByte := by kernel_rfl
  cellsByte := by kernel_rfl
  sizeByte := by kernel_rfl
  neB5 := by decide }
open Go.RowKit in
/-- strings.Join: "Join concatenates the elements of its first argument to create a single string. The separator string sep is placed between elements in the resulting string.": HOWEVER MANY ELEMENTS. Below the heap's end the world is as it was. (LAID: no walk: one application.) -/
theorem Tryz.strings_Join (bk o c : Nat) (xs : List ByteArray) (sep : ByteArray) (w : World) (hcells : ∀ (j : Nat) x, xs[j]? = some x → w.cell? ⟨bk, o + j, none⟩ = some (.string x)) (hbk : bk < w.heap.size) (hN : xs.length ≤ 140737488355328) (hcap : xs.length ≤ c) (hlen : (Lib.join (xs.map (·.data.toList)) sep.data.toList).length ≤ 140737488355328) :
    Calls Tryz.prog 100 #[.slice (some ⟨bk, o, none⟩) xs.length c, .string sep] w fun e w' => e = .returned (.string ⟨(Lib.join (xs.map (·.data.toList)) sep.data.toList).toArray⟩) ∧ Below w.heap.size w w' := Any.strings_Join Tryz.lays156 Tryz.Builder_Extra_156 bk o c xs sep w hcells hbk hN hcap hlen
end Go.Proofs.YtbfllifgmlkndaaGreatDoor

namespace Go.Proofs.YtbfllifgmlkndaaGreatDoor
open Slot

/-- a view: who knows it, each node's epoch, who owns each slot (64: nobody), the greatest epoch -/
structure Vw where
  self : Nat
  ep : Nat → Nat
  own : Nat → Nat
  cur : Nat
/-- the slots that a node owns -/
def Vw.cl (v : Vw) (n : Nat) : Nat → Bool := fun s => v.own s == n
/-- 2^62 -/
def big : Nat := 4611686018427387904
/-- P15.1 -/
def newV (self : Nat) (S : Nat → Bool) (e : Nat) : Vw := ⟨self, fun n => if n = self then e else 0, fun s => if S s then self else 64, e⟩
/-- P15.2 -/
def tellV (v : Vw) (kind : Int) : Pk := ⟨kind, v.self, 0, v.ep v.self, v.cur, v.cl v.self⟩
/-- of whom a packet tells -/
def ofN (p : Pk) : Nat := if p.kind = 3 then p.of_.toNat else p.frm.toNat
/-- is it looked at? -/
def seen (v : Vw) (p : Pk) : Bool := rightP p && decide (p.cur ≤ big) && decide (p.frm ≠ v.self) && !(decide (p.kind = 3) && decide (p.of_ = v.self))
/-- P15.3, 2 -/
def claimV (v : Vw) (n : Nat) (p : Pk) : Vw :=
  { v with
    ep := fun m => if m = n then p.epoch else v.ep m
    own := fun s => if p.cl s then (if v.own s = 64 ∨ v.own s = n ∨ v.ep (v.own s) < p.epoch then n else v.own s) else (if v.own s = n then 64 else v.own s) }
/-- P15.3, 3 -/
def raiseV (v : Vw) : Vw := { v with cur := v.cur + 1, ep := fun m => if m = v.self then v.cur + 1 else v.ep m }
def take1 (v : Vw) (p : Pk) : Vw := { v with cur := max v.cur p.cur }
def take2 (v : Vw) (p : Pk) : Vw := if (take1 v p).ep (ofN p) ≤ p.epoch then claimV (take1 v p) (ofN p) p else take1 v p
def take3 (v : Vw) (p : Pk) : Vw := if p.kind ≠ 3 ∧ p.epoch = (take2 v p).ep (take2 v p).self ∧ (take2 v p).self < ofN p then raiseV (take2 v p) else take2 v p
/-- P15.3: the view behind a packet -/
def takeV (v : Vw) (p : Pk) : Vw := if seen v p = true then take3 v p else v
/-- is this slot one that another one has at a greater epoch? -/
def worse (v : Vw) (p : Pk) (s : Nat) : Bool := p.cl s && decide (v.own s ≠ 64) && decide (v.own s ≠ p.frm.toNat) && decide (p.epoch < v.ep (v.own s))
/-- P15.3, 4: the owner of the first such slot from k on -/
def beatV (v : Vw) (p : Pk) : Nat → Nat → Option Nat
  | 0, _ => none
  | f + 1, k => if worse v p k = true then some (v.own k) else beatV v p f (k + 1)
def updV (v : Vw) (o : Nat) : Pk := ⟨3, v.self, o, v.ep o, v.cur, v.cl o⟩
def outV (v : Vw) (p : Pk) : List Pk := (if p.kind = 1 ∨ p.kind = 4 then [tellV v 2] else []) ++ (match beatV v p top 0 with
  | some o => [updV v o]
  | none => [])
/-- P15.3: what is answered -/
def answV (v : Vw) (p : Pk) : List Pk := if seen v p = true ∧ p.kind ≠ 3 then outV (takeV v p) p else []
/-- P15.4 -/
def ownV (v : Vw) (s n : Nat) : Vw := { v with own := fun t => if t = s then n else v.own t }
def winV (v : Vw) (s least : Nat) : Vw := raiseV { ownV v s v.self with cur := max v.cur least }
def slotB (s : Int) : Bool := decide (0 ≤ s ∧ s < 16384)
def winE (s : Int) (least : Nat) : Int := if slotB s = true ∧ least ≤ big then 0 else 1
def giveE (s n : Int) : Int := if slotB s = true then (if 0 ≤ n ∧ n < 64 then 0 else 150) else 1
/-- how views are: numbers of nodes are below 64, epochs not above the greatest -/
structure Vw.Ok (v : Vw) (k : Nat) : Prop where
  self : v.self < 64
  own : ∀ s, v.own s ≤ 64
  ep : ∀ n, v.ep n ≤ v.cur
  cur : v.cur ≤ big + k
theorem new_ok {self e : Nat} (S : Nat → Bool) (hs : self < 64) (he : e ≤ big) : (newV self S e).Ok 0 := by
  refine ⟨hs, fun s => ?_, fun n => ?_, by simpa [newV] using he⟩
  · show (if S s then self else 64) ≤ 64
    split <;> omega
  · show (if n = self then e else 0) ≤ e
    split <;> omega
theorem Vw.Ok.mono {v : Vw} {k m : Nat} (h : v.Ok k) (hm : k ≤ m) : v.Ok m := ⟨h.self, h.own, h.ep, Nat.le_trans h.cur (by omega)⟩
theorem right_of {p : Pk} (h : rightP p = true) : ofN p < 64 ∧ (p.frm.toNat : Int) = p.frm ∧ p.frm.toNat < 64 ∧ (p.of_.toNat : Int) = p.of_ ∧ p.epoch ≤ p.cur ∧ 1 ≤ p.kind ∧ p.kind ≤ 4 := by
  obtain ⟨h1, h2, h3, h4, h5⟩ := rightP_iff.1 h
  refine ⟨?_, by omega, by omega, by omega, h5, by omega, by omega⟩
  unfold ofN
  split <;> omega
theorem seen_right {v : Vw} {p : Pk} (h : seen v p = true) : rightP p = true ∧ p.cur ≤ big ∧ p.frm ≠ v.self ∧ ¬ (p.kind = 3 ∧ p.of_ = v.self) := by
  unfold seen at h
  simp only [Bool.and_eq_true, decide_eq_true_eq, Bool.not_eq_true', Bool.and_eq_false_iff, decide_eq_false_iff_not] at h
  exact ⟨h.1.1.1, h.1.1.2, h.1.2, fun c => by rcases h.2 with h | h <;> simp_all⟩
theorem ofN_self {v : Vw} {p : Pk} (h : seen v p = true) : ofN p ≠ v.self := by
  obtain ⟨h1, _, h3, h4⟩ := seen_right h
  obtain ⟨_, h5, _, h6, _⟩ := right_of h1
  unfold ofN
  split
  · rename_i c
    intro e
    exact h4 ⟨c, by omega⟩
  · intro e
    exact h3 (by omega)
theorem take2_self (v : Vw) (p : Pk) : (take2 v p).self = v.self := by unfold take2; split <;> rfl
theorem take2_cur (v : Vw) (p : Pk) : (take2 v p).cur = max v.cur p.cur := by unfold take2; split <;> rfl
theorem take3_self (v : Vw) (p : Pk) : (take3 v p).self = v.self := by unfold take3; split <;> exact take2_self v p
theorem take2_ok {v : Vw} {k : Nat} {p : Pk} (h : v.Ok k) (hs : seen v p = true) : (take2 v p).Ok k := by
  obtain ⟨h1, h2, _, _⟩ := seen_right hs
  obtain ⟨r1, _, _, _, r5, _⟩ := right_of h1
  have hc : max v.cur p.cur ≤ big + k := by have := h.cur; omega
  unfold take2
  split
  · refine ⟨h.self, fun s => ?_, fun n => ?_, hc⟩
    · show (if p.cl s then (if v.own s = 64 ∨ v.own s = ofN p ∨ v.ep (v.own s) < p.epoch then ofN p else v.own s) else (if v.own s = ofN p then 64 else v.own s)) ≤ 64
      have := h.own s
      split <;> split <;> omega
    · show (if n = ofN p then p.epoch else v.ep n) ≤ max v.cur p.cur
      have := h.ep n
      split <;> omega
  · exact ⟨h.self, h.own, fun n => Nat.le_trans (h.ep n) (Nat.le_max_left _ _), hc⟩
theorem raise_ok {v : Vw} {k : Nat} (h : v.Ok k) : (raiseV v).Ok (k + 1) := by
  refine ⟨h.self, h.own, fun n => ?_, by have := h.cur; show v.cur + 1 ≤ _; omega⟩
  show (if n = v.self then v.cur + 1 else v.ep n) ≤ v.cur + 1
  have := h.ep n
  split <;> omega
theorem take_ok {v : Vw} {k : Nat} {p : Pk} (h : v.Ok k) : (takeV v p).Ok (k + 1) := by
  unfold takeV
  split
  · rename_i hs
    have := take2_ok h hs
    unfold take3
    split
    · exact raise_ok this
    · exact this.mono (by omega)
  · exact h.mono (by omega)
theorem own_ok {v : Vw} {k s n : Nat} (h : v.Ok k) (hn : n < 64) : (ownV v s n).Ok k := by
  refine ⟨h.self, fun t => ?_, h.ep, h.cur⟩
  show (if t = s then n else v.own t) ≤ 64
  have := h.own t
  split <;> omega
theorem win_ok {v : Vw} {k s least : Nat} (h : v.Ok k) (hl : least ≤ big) : (winV v s least).Ok (k + 1) := by
  refine raise_ok (v := { ownV v s v.self with cur := max v.cur least }) ?_
  have := own_ok (s := s) h h.self
  exact ⟨this.self, this.own, fun n => Nat.le_trans (this.ep n) (Nat.le_max_left _ _), by have := h.cur; show max v.cur least ≤ _; omega⟩
/-! P15.5 -/
/-! P15.6 -/
/-! P15.4 -/
/-! P15.3: twice -/
theorem seen_self {v v' : Vw} {p : Pk} (h : v'.self = v.self) : seen v' p = seen v p := by unfold seen; rw [h]
theorem Vw.same {v w : Vw} (h1 : v.self = w.self) (h2 : ∀ n, v.ep n = w.ep n) (h3 : ∀ s, v.own s = w.own s) (h4 : v.cur = w.cur) : v = w := by
  obtain ⟨a, b, c, d⟩ := v
  obtain ⟨a', b', c', d'⟩ := w
  have e2 : b = b' := funext h2
  have e3 : c = c' := funext h3
  subst e2 e3
  simp only at h1 h4
  rw [h1, h4]
/-- a view that a packet does not change -/
theorem take2_rest {w : Vw} {p : Pk} (hc : p.cur ≤ w.cur) (h : w.ep (ofN p) = p.epoch ∧ (∀ s, p.cl s = true → w.own s = ofN p ∨ (w.own s ≠ 64 ∧ p.epoch ≤ w.ep (w.own s))) ∧ (∀ s, p.cl s = false → w.own s ≠ ofN p) ∨ p.epoch < w.ep (ofN p)) : take2 w p = w := by
  have e1 : take1 w p = w := by unfold take1; rw [Nat.max_eq_left hc]
  unfold take2
  rw [e1]
  rcases h with ⟨h1, h2, h3⟩ | h
  · rw [if_pos (by omega)]
    refine Vw.same rfl (fun m => ?_) (fun s => ?_) rfl
    · show (if m = ofN p then p.epoch else w.ep m) = w.ep m
      split
      · rename_i e; rw [e, h1]
      · rfl
    · show (if p.cl s then (if w.own s = 64 ∨ w.own s = ofN p ∨ w.ep (w.own s) < p.epoch then ofN p else w.own s) else (if w.own s = ofN p then 64 else w.own s)) = w.own s
      cases hc : p.cl s
      · simp only [Bool.false_eq_true, if_false]
        rw [if_neg (h3 s hc)]
      · simp only [if_true]
        rcases h2 s hc with e | ⟨e1, e2⟩
        · rw [if_pos (.inr (.inl e)), e]
        · split
          · rename_i c
            rcases c with c | c | c
            · exact absurd c e1
            · exact c.symm
            · omega
          · rfl
  · rw [if_neg (by omega)]
theorem take_twice {v : Vw} {k : Nat} {p : Pk} (h : v.Ok k) : takeV (takeV v p) p = takeV v p := by
  by_cases hs : seen v p = true
  · have e1 : takeV v p = take3 v p := by unfold takeV; rw [if_pos hs]
    have hr := seen_right hs
    obtain ⟨r1, _, _, _, r5, _⟩ := right_of hr.1
    have hn := ofN_self hs
    have o2 := take2_ok h hs
    have s2 := take2_self v p
    have c2 := take2_cur v p
    have s3 := take3_self v p
    have hs3 : seen (take3 v p) p = true := by rw [seen_self s3]; exact hs
    rw [e1]
    have e2 : takeV (take3 v p) p = take3 (take3 v p) p := by unfold takeV; rw [if_pos hs3]
    rw [e2]
    have hep : (take3 v p).ep (ofN p) = (take2 v p).ep (ofN p) := by
      unfold take3
      split
      · show (if ofN p = (take2 v p).self then (take2 v p).cur + 1 else (take2 v p).ep (ofN p)) = _
        rw [if_neg (by rw [s2]; exact hn)]
      · rfl
    have hge : ∀ n, (take2 v p).ep n ≤ (take3 v p).ep n := fun n => by
      unfold take3
      split
      · show _ ≤ if n = (take2 v p).self then (take2 v p).cur + 1 else (take2 v p).ep n
        have := o2.ep n
        split <;> omega
      · exact Nat.le_refl _
    have hown : (take3 v p).own = (take2 v p).own := by unfold take3; split <;> rfl
    have hcur : p.cur ≤ (take3 v p).cur := by
      unfold take3
      split
      · show _ ≤ (take2 v p).cur + 1
        omega
      · omega
    have key : take2 (take3 v p) p = take3 v p := by
      refine take2_rest hcur ?_
      rw [hep, hown]
      by_cases c : (take1 v p).ep (ofN p) ≤ p.epoch
      · have e : take2 v p = claimV (take1 v p) (ofN p) p := by unfold take2; rw [if_pos c]
        refine .inl ⟨?_, fun s hc => ?_, fun s hc => ?_⟩
        · rw [e]
          show (if ofN p = ofN p then p.epoch else _) = _
          rw [if_pos rfl]
        · have eo : (take2 v p).own s = if v.own s = 64 ∨ v.own s = ofN p ∨ v.ep (v.own s) < p.epoch then ofN p else v.own s := by
            rw [e]
            show (if p.cl s then _ else _) = _
            rw [hc]
            rfl
          rw [eo]
          split
          · exact .inl rfl
          · rename_i d
            have d1 : ¬ v.own s = 64 := fun x => d (.inl x)
            have d2 : ¬ v.own s = ofN p := fun x => d (.inr (.inl x))
            have d3 : ¬ v.ep (v.own s) < p.epoch := fun x => d (.inr (.inr x))
            refine .inr ⟨d1, Nat.le_trans ?_ (hge _)⟩
            rw [e]
            show p.epoch ≤ if v.own s = ofN p then p.epoch else v.ep (v.own s)
            rw [if_neg d2]
            omega
        · rw [e]
          show (if p.cl s then _ else (if v.own s = ofN p then 64 else v.own s)) ≠ ofN p
          rw [hc]
          simp only [Bool.false_eq_true, if_false]
          split
          · omega
          · rename_i d; exact d
      · have e : take2 v p = take1 v p := by unfold take2; rw [if_neg c]
        refine .inr ?_
        rw [e]
        omega
    have step : take3 (take3 v p) p = if p.kind ≠ 3 ∧ p.epoch = (take2 (take3 v p) p).ep (take2 (take3 v p) p).self ∧ (take2 (take3 v p) p).self < ofN p then raiseV (take2 (take3 v p) p) else take2 (take3 v p) p := rfl
    rw [step, key]
    by_cases c : p.kind ≠ 3 ∧ p.epoch = (take2 v p).ep (take2 v p).self ∧ (take2 v p).self < ofN p
    · have e : take3 v p = raiseV (take2 v p) := by unfold take3; rw [if_pos c]
      have e' : (take3 v p).ep (take3 v p).self = (take2 v p).cur + 1 := by
        rw [e]
        show (if (take2 v p).self = (take2 v p).self then (take2 v p).cur + 1 else _) = _
        rw [if_pos rfl]
      have := o2.ep (take2 v p).self
      rw [if_neg (fun d => by rw [e'] at d; omega)]
    · have e : take3 v p = take2 v p := by unfold take3; rw [if_neg c]
      rw [e, if_neg c]
  · have e1 : takeV v p = v := by unfold takeV; rw [if_neg hs]
    rw [e1, e1]
theorem answ_twice {v : Vw} {k : Nat} {p : Pk} (h : v.Ok k) : answV (takeV v p) p = answV v p := by
  have hself : (takeV v p).self = v.self := by
    unfold takeV
    split
    · exact take3_self v p
    · rfl
  unfold answV
  rw [seen_self hself, take_twice h]

end Go.Proofs.YtbfllifgmlkndaaGreatDoor

namespace Go.Proofs.YtbfllifgmlkndaaGreatDoor
open Go.ChangeShapes Go.WideShapes Go.ChangeAt Go.RowKit
open Slot

theorem cellsBits : Tryz.prog.cellsOf 24 = 256 := by kernel_rfl
theorem cellsU64 : Tryz.prog.cellsOf 22 = 1 := by kernel_rfl
/-- what a set reads as -/
def bitsData {H : Type} (S : Nat → Bool) : DataW H := .agg ((List.range 256).map fun i => .lit (.int .u64 (word S i : Int)))
theorem open_bits {H : Type} {enc : TypeId × Value → H} {W : World} {base : Nat} {spare : Nat → Bool} {held : Bool} {fuel : Nat} {cs : Array Value} {d : DataW H} {p : List MemPlace} (hs : cs.size = Tryz.prog.cellsOf 24) (h : DataW.trod enc Tryz.prog W base spare held fuel 24 (Value.agg cs).cells.toList = some (d, p)) :
    ∃ S : Nat → Bool, cs = cellsOf S ∧ d = bitsData S ∧ p = [] := by
  rw [cellsBits] at hs
  obtain ⟨xs, m, rfl, hx, _, hl, he⟩ := DataW.trod_array Tryz.underlying24 h
  rw [cellsU64] at he
  have key : ∀ i, i < 256 → ∃ z : Nat, z < 18446744073709551616 ∧ cs[i]? = some (.int .u64 (z : Int)) ∧ xs[i]? = some (.lit (.int .u64 (z : Int)), []) := fun i hi => by
    have h0 := he i hi
    have hx : xs[i]? = some xs[i] := List.getElem?_eq_getElem (by omega)
    rw [hx] at h0
    obtain ⟨a, e1, e2, wa⟩ := DataW.trod_int Tryz.underlying22 h0
    have hb := bounds_u64 wa
    obtain ⟨z, rfl⟩ := Int.eq_ofNat_of_zero_le hb.1
    refine ⟨z, by omega, ?_, by rw [hx, e2]⟩
    have hc : cs[i]? = some cs[i] := Array.getElem?_eq_getElem (by omega)
    rw [Nat.mul_one] at e1
    simp only [Value.cells] at e1
    rw [List.drop_eq_getElem_cons (by simp; omega)] at e1
    simp at e1
    rw [hc, e1]
  let z : Nat → Nat := fun i => match cs[i]? with | some (.int _ q) => q.toNat | _ => 0
  have hz : ∀ i, i < 256 → z i < 18446744073709551616 ∧ cs[i]? = some (.int .u64 (z i : Int)) ∧ xs[i]? = some (.lit (.int .u64 (z i : Int)), []) := fun i hi => by
    obtain ⟨y, h1, h2, h3⟩ := key i hi
    have : z i = y := by simp only [z, h2]; simp
    rw [this]
    exact ⟨h1, h2, h3⟩
  have hw : ∀ i, i < 256 → word (ofWords z) i = z i := fun i hi => word_ofWords (hz i hi).1
  have hxs : xs = (List.range 256).map fun i => ((.lit (.int .u64 (word (ofWords z) i : Int)) : DataW H), ([] : List MemPlace)) := by
    apply List.ext_getElem?
    intro i
    by_cases hi : i < 256
    · rw [(hz i hi).2.2, List.getElem?_map, List.getElem?_range hi]
      simp only [Option.map_some, hw i hi]
    · rw [List.getElem?_eq_none (by omega), List.getElem?_eq_none (by simp; omega)]
  simp only [Prod.mk.injEq] at hx
  refine ⟨ofWords z, ?_, ?_, ?_⟩
  · apply Array.ext
    · rw [hs, cellsOf_size]
    · intro i h1 h2
      have hi : i < 256 := by omega
      have a1 := (hz i hi).2.1
      rw [Array.getElem?_eq_getElem h1] at a1
      have a2 := cellsOf_get (ofWords z) i hi
      rw [Array.getElem?_eq_getElem h2, hw i hi] at a2
      rw [Option.some.inj a1, Option.some.inj a2]
  · rw [hx.1, hxs]
    unfold bitsData
    rw [List.map_map]
    rfl
  · rw [hx.2, hxs]
    simp [List.flatMap]
end Go.Proofs.YtbfllifgmlkndaaGreatDoor
