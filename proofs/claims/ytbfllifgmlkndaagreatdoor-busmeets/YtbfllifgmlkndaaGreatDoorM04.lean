/- PkModel, ShelfJ, VwModel, Zero, ZeroV, Scan, BusM. -/
import Derived.Test.YtbfllifgmlkndaaGreatDoorM02
import Derived.Shelf.Strings.OnBuilder
import Derived.Test.YtbfllifgmlkndaaGreatDoorProg
import Derived.KernelRfl
import Derived.Below
import Derived.WalkKit
namespace Go.Proofs.YtbfllifgmlkndaaGreatDoor
open Slot

abbrev Bs := List UInt8
/-- a number in k bytes, the highest first -/
def be : Nat → Nat → Bs
  | 0, _ => []
  | k + 1, n => UInt8.ofNat (n / 256 ^ k) :: be k n
theorem be_len : ∀ k n, (be k n).length = k
  | 0, _ => rfl
  | k + 1, n => by rw [be, List.length_cons, be_len k n]
theorem be_get : ∀ (k n i : Nat), i < k → (be k n)[i]? = some (UInt8.ofNat (n / 256 ^ (k - 1 - i)))
  | 0, _, _, h => absurd h (Nat.not_lt_zero _)
  | k + 1, n, 0, _ => rfl
  | k + 1, n, i + 1, h => by
    rw [be, List.getElem?_cons_succ, be_get k n i (by omega)]
    rw [show k + 1 - 1 - (i + 1) = k - 1 - i by omega]
/-- the number of bytes -/
def nb (l : Bs) : Nat := l.foldl (fun n b => n * 256 + b.toNat) 0
theorem nb_acc : ∀ (k n a : Nat), (be k n).foldl (fun n b => n * 256 + b.toNat) a = a * 256 ^ k + n % 256 ^ k
  | 0, n, a => by simp [be, Nat.mod_one]
  | k + 1, n, a => by
    rw [be, List.foldl_cons, nb_acc k n, UInt8.toNat_ofNat']
    have h1 : 256 ^ (k + 1) = 256 * 256 ^ k := by rw [Nat.pow_succ, Nat.mul_comm]
    have h2 : n % (256 * 256 ^ k) = 256 ^ k * (n / 256 ^ k % 256) + n % 256 ^ k := by
      rw [Nat.mul_comm 256, Nat.mod_mul]; omega
    rw [h1, h2, Nat.add_mul, Nat.mul_assoc, show (2 : Nat) ^ 8 = 256 from rfl, Nat.mul_comm (n / 256 ^ k % 256), Nat.add_assoc]
theorem nb_be (k n : Nat) : nb (be k n) = n % 256 ^ k := by
  have := nb_acc k n 0
  simpa [nb] using this
theorem nb_lt : ∀ (l : Bs) (a k : Nat), a < 256 ^ k → l.foldl (fun n b => n * 256 + b.toNat) a < 256 ^ (k + l.length)
  | [], a, k, h => by simpa using h
  | b :: l, a, k, h => by
    rw [List.foldl_cons, List.length_cons, show k + (l.length + 1) = (k + 1) + l.length by omega]
    refine nb_lt l _ (k + 1) ?_
    have hb := b.toNat_lt
    rw [Nat.pow_succ]
    have : (a + 1) * 256 ≤ 256 ^ k * 256 := Nat.mul_le_mul_right _ h
    omega

/-! the writing of slots -/
theorem least {P : Nat → Prop} : ∀ n, P n → ∃ k, k ≤ n ∧ P k ∧ ∀ j, j < k → ¬ P j := fun n => by
  induction n using Nat.strongRecOn with
  | ind n ih =>
    intro h
    by_cases e : ∃ j, j < n ∧ P j
    · obtain ⟨j, hj, hp⟩ := e
      obtain ⟨k, h1, h2⟩ := ih j hj hp
      exact ⟨k, by omega, h2⟩
    · exact ⟨n, Nat.le_refl _, h, fun j hj hp => e ⟨j, hj, hp⟩⟩
theorem runs_from (S : Nat → Bool) : ∀ k m, top - m ≤ k → m ≤ top → ∃ l, Runs S m l
  | 0, m, h, hm => ⟨[], fun n h1 h2 => by omega⟩
  | k + 1, m, h, hm => by
    by_cases e : ∃ n, m ≤ n ∧ n < top ∧ S n = true
    · obtain ⟨n, hn⟩ := e
      obtain ⟨f, _, ⟨h1, h2, h3⟩, h4⟩ := least (P := fun n => m ≤ n ∧ n < top ∧ S n = true) n hn
      obtain ⟨t, _, ⟨h5, h6⟩, h7⟩ := least (P := fun t => f ≤ t ∧ (t + 1 < top → S (t + 1) = false)) (top - 1) ⟨by unfold top at *; omega, fun h => by unfold top at h; omega⟩
      have ht : t < top := by
        by_cases c : t < top
        · exact c
        · exact absurd ⟨by omega, fun h => by omega⟩ (h7 (t - 1) (by unfold top at *; omega))
      obtain ⟨l, hl⟩ := runs_from S k (t + 1) (by omega) (by omega)
      refine ⟨(f, t) :: l, h1, h5, ht, fun n a b => ?_, fun n a b => ?_, h6, hl⟩
      · cases c : S n
        · rfl
        · exact absurd ⟨a, by omega, c⟩ (h4 n b)
      · by_cases c : n = f
        · rw [c]; exact h3
        · have := h7 (n - 1) (by omega)
          cases d : S n
          · exact absurd ⟨by omega, fun _ => by rw [show n - 1 + 1 = n by omega]; exact d⟩ this
          · rfl
    · refine ⟨[], fun n h1 h2 => ?_⟩
      cases c : S n
      · rfl
      · exact absurd ⟨n, h1, h2, c⟩ e
theorem runs_ex (S : Nat → Bool) : ∃ l, Runs S 0 l := runs_from S top 0 (by omega) (by omega)
/-- a set's ranges -/
noncomputable def runsOf (S : Nat → Bool) : List (Nat × Nat) := Classical.choose (runs_ex S)
theorem runs_of (S : Nat → Bool) : Runs S 0 (runsOf S) := Classical.choose_spec (runs_ex S)
theorem runsOf_eq {S : Nat → Bool} {l : List (Nat × Nat)} (h : Runs S 0 l) : runsOf S = l := (runs_of S).unique h
/-- a set's writing -/
noncomputable def ctext (S : Nat → Bool) : Bs := print (runsOf S)
theorem ctext_eq {S : Nat → Bool} {l : List (Nat × Nat)} (h : Runs S 0 l) : print l = ctext S := by rw [ctext, runsOf_eq h]
theorem ctext_parse (S : Nat → Bool) : parseAll (ctext S) = some (runsOf S) := parseAll_print (runs_of S).chain
theorem ctext_set (S : Nat → Bool) (n : Nat) (h : n < top) : ofList (runsOf S) n = S n := (runs_of S).ofList n (Nat.zero_le _) h
theorem ctext_congr {S T : Nat → Bool} (h : ∀ n, n < top → S n = T n) : ctext S = ctext T := by
  rw [← ctext_eq ((runs_of S).congr fun n _ hn => h n hn)]; rfl
theorem dec_few (k : Nat) : ∀ m, m < 10 ^ (k + 1) → (dec m).length ≤ k + 1 := by
  induction k with
  | zero => intro m hm; unfold dec; rw [Lib.decDigits, dif_pos (by omega)]; simp
  | succ k ih =>
    intro m hm
    unfold dec
    rw [Lib.decDigits]
    split
    · simp
    · have := ih (m / 10) (by rw [Nat.pow_succ] at hm; omega)
      rw [List.length_append]
      simp only [List.length_singleton]
      exact Nat.succ_le_succ this
/-- how much may yet come of the slots from m on -/
def phi (m : Nat) : Nat := 4 * (16386 - m) - (1000 - m)
theorem piece_phi (f t : Nat) (h1 : f ≤ t) (h2 : t < 16384) : (piece (f, t)).length + 1 + phi (t + 2) ≤ phi f := by
  have f5 := dec_few 4 f (by omega)
  have t5 := dec_few 4 t (by omega)
  have f3 : f < 1000 → (dec f).length ≤ 3 := fun h => dec_few 2 f (by omega)
  have t3 : t < 1000 → (dec t).length ≤ 3 := fun h => dec_few 2 t (by omega)
  unfold piece phi
  split
  · simp only [List.length_append, List.length_cons]
    by_cases a : f < 1000
    · have := f3 a
      by_cases b : t < 1000
      · have := t3 b; omega
      · omega
    · omega
  · simp only [List.length_append, List.length_nil]
    omega
theorem phi_mono {a b : Nat} (h : a ≤ b) : phi b ≤ phi a := by unfold phi; omega
theorem print_phi : ∀ (l : List (Nat × Nat)) (m : Nat), Chain m l → (print l).length ≤ phi m
  | [], m, _ => by simp [print]
  | [(f, t)], m, ⟨h1, h2, h3, _⟩ => by
    have := piece_phi f t h2 h3
    have b : phi f ≤ phi m := phi_mono h1
    simp only [print]; omega
  | (f, t) :: q :: l, m, ⟨h1, h2, h3, h4⟩ => by
    have a := piece_phi f t h2 h3
    have b : phi f ≤ phi m := phi_mono h1
    have c := print_phi (q :: l) (t + 2) h4
    simp only [print, List.length_append, List.length_cons] at c ⊢
    omega
theorem ctext_len (S : Nat → Bool) : (ctext S).length < 65536 := by
  have := print_phi _ _ (runs_of S).chain
  unfold ctext
  simp only [phi] at this
  omega

/-! packets -/
structure Pk where
  kind : Int
  frm : Int
  of_ : Int
  epoch : Nat
  cur : Nat
  cl : Nat → Bool
/-- P14.1 -/
def rightP (p : Pk) : Bool := decide ((p.kind = 1 ∨ p.kind = 2 ∨ p.kind = 3 ∨ p.kind = 4) ∧ (0 ≤ p.frm ∧ p.frm < 64) ∧ (0 ≤ p.of_ ∧ p.of_ < 64) ∧ (p.kind = 3 ∨ p.of_ = 0) ∧ p.epoch ≤ p.cur)
def sumN (n : Bs) : Nat := (Crc.more 0#16 (n.map UInt8.toBitVec)).toNat
theorem sumN_lt (n : Bs) : sumN n < 65536 := BitVec.isLt _
/-- what stands ahead of the claims -/
def front (p : Pk) (n : Nat) : Bs := be 1 p.kind.toNat ++ (be 1 p.frm.toNat ++ (be 1 p.of_.toNat ++ (be 8 p.epoch ++ (be 8 p.cur ++ be 2 n))))
noncomputable def headP (p : Pk) : Bs := front p (ctext p.cl).length ++ ctext p.cl
/-- P14.2 -/
noncomputable def enc (p : Pk) : Bs := headP p ++ be 2 (sumN (headP p))
theorem front_len (p : Pk) (n : Nat) : (front p n).length = 21 := by simp [front, be_len]
theorem enc_len (p : Pk) : (enc p).length = 23 + (ctext p.cl).length := by
  simp only [enc, headP, List.length_append, be_len, front_len]; omega
def setOf (s : Bs) : Nat → Bool := match parseAll s with
  | some l => ofList l
  | none => fun _ => false
/-- what the bytes of a text would say -/
def rdP (s : Bs) : Pk := ⟨((s.getD 0 0).toNat : Int), ((s.getD 1 0).toNat : Int), ((s.getD 2 0).toNat : Int), nb ((s.drop 3).take 8), nb ((s.drop 11).take 8), setOf ((s.drop 21).take (s.length - 23))⟩
open Classical in
/-- P14.3 -/
noncomputable def decP (s : Bs) : Option Pk := if 23 ≤ s.length ∧ rightP (rdP s) = true ∧ enc (rdP s) = s then some (rdP s) else none

def hiB (s : BitVec 16) : BitVec 8 := (s >>> 8).setWidth 8
def loB (s : BitVec 16) : BitVec 8 := s.setWidth 8
theorem hiB_xor (a b : BitVec 16) : hiB (a ^^^ b) = hiB a ^^^ hiB b := by
  apply BitVec.eq_of_getLsbD_eq
  intro i hi
  simp [hiB, hi]
theorem loB_xor (a b : BitVec 16) : loB (a ^^^ b) = loB a ^^^ loB b := by
  apply BitVec.eq_of_getLsbD_eq
  intro i hi
  simp [loB, hi]
theorem ends_zero (s : BitVec 16) : Crc.step (Crc.step s (hiB s)) (loB s) = 0#16 := by
  refine Crc.lin_ext (fun s => Crc.step (Crc.step s (hiB s)) (loB s)) (fun _ => 0#16) (fun a b => ?_) (fun a b => by simp) (by decide +kernel) (by decide +kernel) s
  show Crc.step (Crc.step (a ^^^ b) (hiB (a ^^^ b))) (loB (a ^^^ b)) = _
  rw [hiB_xor, loB_xor, Crc.step_xor, Crc.step_xor]
theorem step_two (c : BitVec 16) : Crc.more c ((be 2 c.toNat).map UInt8.toBitVec) = 0#16 := by
  have h := c.isLt
  have e1 : (UInt8.ofNat (c.toNat / 256 ^ 1)).toBitVec = hiB c := by
    apply BitVec.eq_of_toNat_eq
    show (UInt8.ofNat (c.toNat / 256 ^ 1)).toNat = _
    rw [UInt8.toNat_ofNat']
    simp [hiB, Nat.shiftRight_eq_div_pow]
  have e2 : (UInt8.ofNat (c.toNat / 256 ^ 0)).toBitVec = loB c := by
    apply BitVec.eq_of_toNat_eq
    show (UInt8.ofNat (c.toNat / 256 ^ 0)).toNat = _
    rw [UInt8.toNat_ofNat']
    simp [loB]
  have e : (be 2 c.toNat).map UInt8.toBitVec = [hiB c, loB c] := by rw [be, be, be, List.map_cons, List.map_cons, List.map_nil, e1, e2]
  rw [e]
  exact ends_zero c
theorem sum_two (l : Bs) : sumN (l ++ be 2 (sumN l)) = 0 := by
  have := step_two (Crc.more 0#16 (l.map UInt8.toBitVec))
  unfold sumN
  rw [List.map_append, Crc.more_append, this]
  rfl
theorem sum_enc (p : Pk) : sumN (enc p) = 0 := sum_two _

/-- the parts of a text: 21 bytes, more, and two -/
theorem mid_of (a t b : Bs) (ha : a.length = 21) (hb : b.length = 2) : ((a ++ t ++ b).drop 21).take ((a ++ t ++ b).length - 23) = t := by
  rw [List.append_assoc, List.drop_append_of_le_length (by omega), List.drop_of_length_le (by omega), List.nil_append]
  rw [show (a ++ (t ++ b)).length - 23 = t.length by simp only [List.length_append]; omega, List.take_left]
/-- alike but for slots that are none -/
def Like (p q : Pk) : Prop := p.kind = q.kind ∧ p.frm = q.frm ∧ p.of_ = q.of_ ∧ p.epoch = q.epoch ∧ p.cur = q.cur ∧ ∀ n, n < top → p.cl n = q.cl n
theorem Like.refl (p : Pk) : Like p p := ⟨rfl, rfl, rfl, rfl, rfl, fun _ _ => rfl⟩
theorem Like.symm {p q : Pk} (h : Like p q) : Like q p := ⟨h.1.symm, h.2.1.symm, h.2.2.1.symm, h.2.2.2.1.symm, h.2.2.2.2.1.symm, fun n hn => (h.2.2.2.2.2 n hn).symm⟩
theorem Like.trans {p q r : Pk} (h : Like p q) (k : Like q r) : Like p r := ⟨h.1.trans k.1, h.2.1.trans k.2.1, h.2.2.1.trans k.2.2.1, h.2.2.2.1.trans k.2.2.2.1, h.2.2.2.2.1.trans k.2.2.2.2.1, fun n hn => (h.2.2.2.2.2 n hn).trans (k.2.2.2.2.2 n hn)⟩
theorem Like.enc {p q : Pk} (h : Like p q) : enc p = enc q := by
  obtain ⟨h1, h2, h3, h4, h5, h6⟩ := h
  have : headP p = headP q := by unfold headP front; rw [h1, h2, h3, h4, h5, ctext_congr h6]
  unfold Go.Proofs.YtbfllifgmlkndaaGreatDoor.enc
  rw [this]
theorem Like.right {p q : Pk} (h : Like p q) : rightP p = rightP q := by
  obtain ⟨h1, h2, h3, h4, h5, h6⟩ := h
  unfold rightP; rw [h1, h2, h3, h4, h5]
theorem rightP_iff {p : Pk} : rightP p = true ↔ (p.kind = 1 ∨ p.kind = 2 ∨ p.kind = 3 ∨ p.kind = 4) ∧ (0 ≤ p.frm ∧ p.frm < 64) ∧ (0 ≤ p.of_ ∧ p.of_ < 64) ∧ (p.kind = 3 ∨ p.of_ = 0) ∧ p.epoch ≤ p.cur := by
  unfold rightP; exact decide_eq_true_iff
theorem setOf_ctext (S : Nat → Bool) (n : Nat) (h : n < top) : setOf (ctext S) n = S n := by
  unfold setOf; rw [ctext_parse]; exact ctext_set S n h
/-- what was written says what it was -/
theorem rd_enc {p : Pk} (hr : rightP p = true) (he : p.epoch < 256 ^ 8) (hc : p.cur < 256 ^ 8) : Like (rdP (enc p)) p := by
  obtain ⟨hk, hf, ho, _⟩ := rightP_iff.1 hr
  have hs : enc p = be 1 p.kind.toNat ++ (be 1 p.frm.toNat ++ (be 1 p.of_.toNat ++ (be 8 p.epoch ++ (be 8 p.cur ++ (be 2 (ctext p.cl).length ++ (ctext p.cl ++ be 2 (sumN (headP p)))))))) := by
    simp only [enc, headP, front, List.append_assoc]
  have h1 : ∀ n, be 1 n = [UInt8.ofNat n] := fun n => by simp [be]
  have hb : ∀ z : Int, 0 ≤ z → z < 64 → ((UInt8.ofNat z.toNat).toNat : Int) = z := fun z a b => by
    rw [UInt8.toNat_ofNat']; omega
  refine ⟨?_, ?_, ?_, ?_, ?_, fun n hn => ?_⟩
  · rw [hs, h1]
    exact hb _ (by omega) (by omega)
  · rw [hs, h1, h1]
    exact hb _ hf.1 hf.2
  · rw [hs, h1, h1, h1]
    exact hb _ ho.1 ho.2
  · show nb (((enc p).drop 3).take 8) = _
    rw [hs, h1, h1, h1]
    simp only [List.cons_append, List.nil_append, List.drop_succ_cons, List.drop_zero]
    rw [List.take_append_of_le_length (by rw [be_len]; omega), List.take_of_length_le (by rw [be_len]; omega), nb_be, Nat.mod_eq_of_lt he]
  · show nb (((enc p).drop 11).take 8) = _
    rw [hs, h1, h1, h1]
    simp only [List.cons_append, List.nil_append, List.drop_succ_cons]
    rw [List.drop_append_of_le_length (by rw [be_len]; omega), List.drop_of_length_le (by rw [be_len]; omega), List.nil_append]
    rw [List.take_append_of_le_length (by rw [be_len]; omega), List.take_of_length_le (by rw [be_len]; omega), nb_be, Nat.mod_eq_of_lt hc]
  · show setOf (((enc p).drop 21).take ((enc p).length - 23)) n = _
    have : enc p = front p (ctext p.cl).length ++ ctext p.cl ++ be 2 (sumN (headP p)) := rfl
    rw [this, mid_of _ _ _ (front_len _ _) (be_len _ _)]
    exact setOf_ctext _ n hn
/-- P14.4: what was written is read -/
theorem dec_enc {p : Pk} (hr : rightP p = true) (he : p.epoch < 256 ^ 8) (hc : p.cur < 256 ^ 8) : decP (enc p) = some (rdP (enc p)) := by
  have h := rd_enc hr he hc
  unfold decP
  rw [if_pos ⟨by rw [enc_len]; omega, by rw [h.right]; exact hr, h.enc⟩]
theorem dec_some {s : Bs} {p : Pk} (h : decP s = some p) : 23 ≤ s.length ∧ rightP p = true ∧ enc p = s ∧ p = rdP s := by
  unfold decP at h
  split at h
  · rename_i c
    obtain rfl := Option.some.inj h
    exact ⟨c.1, c.2.1, c.2.2, rfl⟩
  · cases h
/-- a text of another sum than 0 is no packet's -/
theorem dec_sum {s : Bs} (h : sumN s ≠ 0) : decP s = none := by
  cases e : decP s with
  | none => rfl
  | some p => exact absurd (by rw [← (dec_some e).2.2.1]; exact sum_enc p) h
theorem dec_short {s : Bs} (h : s.length < 23) : decP s = none := by
  unfold decP; rw [if_neg (fun c => by omega)]
theorem dec_bad {s : Bs} (h : ¬ (rightP (rdP s) = true ∧ enc (rdP s) = s)) : decP s = none := by
  unfold decP; rw [if_neg (fun c => h c.2)]
theorem dec_good {s : Bs} (h0 : 23 ≤ s.length) (h1 : rightP (rdP s) = true) (h2 : enc (rdP s) = s) : decP s = some (rdP s) := by
  unfold decP; rw [if_pos ⟨h0, h1, h2⟩]

end Go.Proofs.YtbfllifgmlkndaaGreatDoor

namespace Go.Proofs.YtbfllifgmlkndaaGreatDoor
open Go.Shelf
theorem Tryz.Builder_Extra_156 : Builder.Extra Tryz.prog Tryz.lays156_ren := {
  sizeBuilder := by kernel_rfl
  liesBuilder := by kernel_rfl
  t5 := Tryz.underlying5
  a5 := Tryz.isAgg5
  z5 := Tryz.sizeOf5
  v5 := Tryz.zeroValue5
  infoByte := by kernel_rfl
  cellsByte := by kernel_rfl
  sizeByte := by kernel_rfl
  neB5 := by decide }
open Go.RowKit in
/-- strings.Join: "Join concatenates the elements of its first argument to create a single string. The separator string sep is placed between elements in the resulting string.": HOWEVER MANY ELEMENTS. Below the heap's end the world is as it was. (LAID: no walk: one application.) -/
theorem Tryz.strings_Join (bk o c : Nat) (xs : List ByteArray) (sep : ByteArray) (w : World) (hcells : ∀ (j : Nat) x, xs[j]? = some x → w.cell? ⟨bk, o + j, none⟩ = some (.string x)) (hbk : bk < w.heap.size) (hN : xs.length ≤ 140737488355328) (hcap : xs.length ≤ c) (hlen : (Lib.join (xs.map (·.data.toList)) sep.data.toList).length ≤ 140737488355328) :
    Calls Tryz.prog 100 #[.slice (some ⟨bk, o, none⟩) xs.length c, .string sep] w fun e w' => e = .returned (.string ⟨(Lib.join (xs.map (·.data.toList)) sep.data.toList).toArray⟩) ∧ Below w.heap.size w w' := Any.strings_Join Tryz.lays156 Tryz.Builder_Extra_156 bk o c xs sep w hcells hbk hN hcap hlen
end Go.Proofs.YtbfllifgmlkndaaGreatDoor

namespace Go.Proofs.YtbfllifgmlkndaaGreatDoor
open Slot

/-- a view: who knows it, each node's epoch, who owns each slot (64: nobody), the greatest epoch -/
structure Vw where
  self : Nat
  ep : Nat → Nat
  own : Nat → Nat
  cur : Nat
/-- the slots that a node owns -/
def Vw.cl (v : Vw) (n : Nat) : Nat → Bool := fun s => v.own s == n
/-- 2^62 -/
def big : Nat := 4611686018427387904
/-- P15.1 -/
def newV (self : Nat) (S : Nat → Bool) (e : Nat) : Vw := ⟨self, fun n => if n = self then e else 0, fun s => if S s then self else 64, e⟩
/-- P15.2 -/
def tellV (v : Vw) (kind : Int) : Pk := ⟨kind, v.self, 0, v.ep v.self, v.cur, v.cl v.self⟩
/-- of whom a packet tells -/
def ofN (p : Pk) : Nat := if p.kind = 3 then p.of_.toNat else p.frm.toNat
/-- is it looked at? -/
def seen (v : Vw) (p : Pk) : Bool := rightP p && decide (p.cur ≤ big) && decide (p.frm ≠ v.self) && !(decide (p.kind = 3) && decide (p.of_ = v.self))
/-- P15.3, 2 -/
def claimV (v : Vw) (n : Nat) (p : Pk) : Vw :=
  { v with
    ep := fun m => if m = n then p.epoch else v.ep m
    own := fun s => if p.cl s then (if v.own s = 64 ∨ v.own s = n ∨ v.ep (v.own s) < p.epoch then n else v.own s) else (if v.own s = n then 64 else v.own s) }
/-- P15.3, 3 -/
def raiseV (v : Vw) : Vw := { v with cur := v.cur + 1, ep := fun m => if m = v.self then v.cur + 1 else v.ep m }
def take1 (v : Vw) (p : Pk) : Vw := { v with cur := max v.cur p.cur }
def take2 (v : Vw) (p : Pk) : Vw := if (take1 v p).ep (ofN p) ≤ p.epoch then claimV (take1 v p) (ofN p) p else take1 v p
def take3 (v : Vw) (p : Pk) : Vw := if p.kind ≠ 3 ∧ p.epoch = (take2 v p).ep (take2 v p).self ∧ (take2 v p).self < ofN p then raiseV (take2 v p) else take2 v p
/-- P15.3: the view behind a packet -/
def takeV (v : Vw) (p : Pk) : Vw := if seen v p = true then take3 v p else v
/-- is this slot one that another one has at a greater epoch? -/
def worse (v : Vw) (p : Pk) (s : Nat) : Bool := p.cl s && decide (v.own s ≠ 64) && decide (v.own s ≠ p.frm.toNat) && decide (p.epoch < v.ep (v.own s))
/-- P15.3, 4: the owner of the first such slot from k on -/
def beatV (v : Vw) (p : Pk) : Nat → Nat → Option Nat
  | 0, _ => none
  | f + 1, k => if worse v p k = true then some (v.own k) else beatV v p f (k + 1)
def updV (v : Vw) (o : Nat) : Pk := ⟨3, v.self, o, v.ep o, v.cur, v.cl o⟩
def outV (v : Vw) (p : Pk) : List Pk := (if p.kind = 1 ∨ p.kind = 4 then [tellV v 2] else []) ++ (match beatV v p top 0 with
  | some o => [updV v o]
  | none => [])
/-- P15.3: what is answered -/
def answV (v : Vw) (p : Pk) : List Pk := if seen v p = true ∧ p.kind ≠ 3 then outV (takeV v p) p else []
/-- P15.4 -/
def ownV (v : Vw) (s n : Nat) : Vw := { v with own := fun t => if t = s then n else v.own t }
def slotB (s : Int) : Bool := decide (0 ≤ s ∧ s < 16384)
/-- how views are: numbers of nodes are below 64, epochs not above the greatest -/
structure Vw.Ok (v : Vw) (k : Nat) : Prop where
  self : v.self < 64
  own : ∀ s, v.own s ≤ 64
  ep : ∀ n, v.ep n ≤ v.cur
  cur : v.cur ≤ big + k
theorem Vw.Ok.mono {v : Vw} {k m : Nat} (h : v.Ok k) (hm : k ≤ m) : v.Ok m := ⟨h.self, h.own, h.ep, Nat.le_trans h.cur (by omega)⟩
theorem right_of {p : Pk} (h : rightP p = true) : ofN p < 64 ∧ (p.frm.toNat : Int) = p.frm ∧ p.frm.toNat < 64 ∧ (p.of_.toNat : Int) = p.of_ ∧ p.epoch ≤ p.cur ∧ 1 ≤ p.kind ∧ p.kind ≤ 4 := by
  obtain ⟨h1, h2, h3, h4, h5⟩ := rightP_iff.1 h
  refine ⟨?_, by omega, by omega, by omega, h5, by omega, by omega⟩
  unfold ofN
  split <;> omega
theorem seen_right {v : Vw} {p : Pk} (h : seen v p = true) : rightP p = true ∧ p.cur ≤ big ∧ p.frm ≠ v.self ∧ ¬ (p.kind = 3 ∧ p.of_ = v.self) := by
  unfold seen at h
  simp only [Bool.and_eq_true, decide_eq_true_eq, Bool.not_eq_true', Bool.and_eq_false_iff, decide_eq_false_iff_not] at h
  exact ⟨h.1.1.1, h.1.1.2, h.1.2, fun c => by rcases h.2 with h | h <;> simp_all⟩
theorem take2_self (v : Vw) (p : Pk) : (take2 v p).self = v.self := by unfold take2; split <;> rfl
theorem take2_cur (v : Vw) (p : Pk) : (take2 v p).cur = max v.cur p.cur := by unfold take2; split <;> rfl
theorem take2_ok {v : Vw} {k : Nat} {p : Pk} (h : v.Ok k) (hs : seen v p = true) : (take2 v p).Ok k := by
  obtain ⟨h1, h2, _, _⟩ := seen_right hs
  obtain ⟨r1, _, _, _, r5, _⟩ := right_of h1
  have hc : max v.cur p.cur ≤ big + k := by have := h.cur; omega
  unfold take2
  split
  · refine ⟨h.self, fun s => ?_, fun n => ?_, hc⟩
    · show (if p.cl s then (if v.own s = 64 ∨ v.own s = ofN p ∨ v.ep (v.own s) < p.epoch then ofN p else v.own s) else (if v.own s = ofN p then 64 else v.own s)) ≤ 64
      have := h.own s
      split <;> split <;> omega
    · show (if n = ofN p then p.epoch else v.ep n) ≤ max v.cur p.cur
      have := h.ep n
      split <;> omega
  · exact ⟨h.self, h.own, fun n => Nat.le_trans (h.ep n) (Nat.le_max_left _ _), hc⟩
theorem raise_ok {v : Vw} {k : Nat} (h : v.Ok k) : (raiseV v).Ok (k + 1) := by
  refine ⟨h.self, h.own, fun n => ?_, by have := h.cur; show v.cur + 1 ≤ _; omega⟩
  show (if n = v.self then v.cur + 1 else v.ep n) ≤ v.cur + 1
  have := h.ep n
  split <;> omega
theorem take_ok {v : Vw} {k : Nat} {p : Pk} (h : v.Ok k) : (takeV v p).Ok (k + 1) := by
  unfold takeV
  split
  · rename_i hs
    have := take2_ok h hs
    unfold take3
    split
    · exact raise_ok this
    · exact this.mono (by omega)
  · exact h.mono (by omega)
/-! P15.5 -/
/-! P15.6 -/
/-! P15.4 -/
/-! P15.3: twice -/
theorem Vw.same {v w : Vw} (h1 : v.self = w.self) (h2 : ∀ n, v.ep n = w.ep n) (h3 : ∀ s, v.own s = w.own s) (h4 : v.cur = w.cur) : v = w := by
  obtain ⟨a, b, c, d⟩ := v
  obtain ⟨a', b', c', d'⟩ := w
  have e2 : b = b' := funext h2
  have e3 : c = c' := funext h3
  subst e2 e3
  simp only at h1 h4
  rw [h1, h4]
end Go.Proofs.YtbfllifgmlkndaaGreatDoor

namespace Go.Proofs.YtbfllifgmlkndaaGreatDoor

theorem ne_empty {a : Array Value} {n : Nat} (h : a.size = n + 1) : a ≠ #[] := by
  intro e
  rw [e] at h
  cases h

end Go.Proofs.YtbfllifgmlkndaaGreatDoor

namespace Go.Proofs.YtbfllifgmlkndaaGreatDoor
open Go.RowKit

set_option maxRecDepth 1000000
theorem len2 (a b : List Value) {n m k : Nat} (h1 : a.length = n) (h2 : b.length = m) (h : n + m = k) : (List.append a b).length = k := by
  show (a ++ b).length = k
  rw [List.length_append]; omega
theorem end2 (a b E : List Value) (h : ∃ c, b = c ++ E) : ∃ c, List.append a b = c ++ E := by
  obtain ⟨c, rfl⟩ := h
  exact ⟨a ++ c, by show a ++ (c ++ E) = _; rw [List.append_assoc]⟩
theorem zview : ∃ Z : List Value, Tryz.t109.zero = some (.agg Z.toArray) ∧ Z.length = 16450 ∧ ∃ c, Z = c ++ List.replicate 65 (.int .u64 0) := by
  refine ⟨_, rfl, ?_, ?_⟩
  · refine len2 _ _ (n := 8225) (m := 8225) ?_ ?_ (by rfl)
    all_goals refine len2 _ _ (n := 4112) (m := 4113) ?_ ?_ (by rfl)
    case refine_1.refine_1 | refine_2.refine_1 =>
      refine len2 _ _ (n := 2056) (m := 2056) ?_ ?_ (by rfl)
      all_goals refine len2 _ _ (n := 1028) (m := 1028) ?_ ?_ (by rfl)
      all_goals refine len2 _ _ (n := 514) (m := 514) ?_ ?_ (by rfl)
      all_goals kernel_rfl
    all_goals
      refine len2 _ _ (n := 2056) (m := 2057) ?_ ?_ (by rfl)
    case refine_1.refine_2.refine_1 | refine_2.refine_2.refine_1 =>
      refine len2 _ _ (n := 1028) (m := 1028) ?_ ?_ (by rfl)
      all_goals refine len2 _ _ (n := 514) (m := 514) ?_ ?_ (by rfl)
      all_goals kernel_rfl
    all_goals
      refine len2 _ _ (n := 1028) (m := 1029) ?_ ?_ (by rfl)
      · kernel_rfl
      · kernel_rfl
  · iterate 8 refine end2 _ _ _ ?_
    exact ⟨[], by kernel_rfl⟩
/-- the zero value of a view -/
theorem zview_any : ∃ Z : Array Value, Z.size = 16450 ∧ (∀ n, n < 65 → Z[16385 + n]? = some (.int .u64 0)) ∧ ¬ Z = #[] ∧ ∀ w : World, (zeroValue 109).run Tryz.prog w = .ok (.agg Z) w := by
  obtain ⟨Z, h, h1, c, h2⟩ := zview
  have hs : Z.toArray.size = 16450 := by rw [List.size_toArray, h1]
  refine ⟨Z.toArray, hs, fun n hn => ?_, ne_empty (n := 16449) hs, fun w => ?_⟩
  · have hc : c.length = 16385 := by
      have := congrArg List.length h2
      rw [h1, List.length_append, List.length_replicate] at this
      omega
    rw [List.getElem?_toArray, h2, List.getElem?_append_right (by omega), hc, show 16385 + n - 16385 = n by omega, List.getElem?_replicate, if_pos hn]
  · unfold zeroValue
    rw [Sem.run_bind, Tryz.typeInfo109]
    simp only [Result.andThen_ok, h]
    rfl

end Go.Proofs.YtbfllifgmlkndaaGreatDoor

namespace Go.Proofs.YtbfllifgmlkndaaGreatDoor
open Slot

/-- a packet that node n tells of itself: o says whose each slot is (64: nobody's) -/
structure GoodP (o : Nat → Nat) (n : Nat) (p : Pk) : Prop where
  kind : p.kind = 1 ∨ p.kind = 2
  frm : p.frm = (n : Int)
  of_ : p.of_ = 0
  epoch : p.epoch = n + 1
  cur1 : p.epoch ≤ p.cur
  cur2 : p.cur ≤ 64
  cl : ∀ s, s < 16384 → p.cl s = (o s == n)
/-- what node i may see -/
structure Inv (o : Nat → Nat) (i : Nat) (v : Vw) : Prop where
  self : v.self = i
  lt : i < 64
  mine : v.ep i = i + 1
  ep : ∀ m, v.ep m = 0 ∨ v.ep m = m + 1
  cur : v.cur ≤ 64
  epc : ∀ m, v.ep m ≤ v.cur
  own : ∀ s, s < 16384 → v.own s = 64 ∨ v.own s = o s
  has : ∀ s, s < 16384 → o s = i → v.own s = i
  le : ∀ s, v.own s ≤ 64
theorem Inv.ok {o : Nat → Nat} {i : Nat} {v : Vw} (h : Inv o i v) : v.Ok 0 :=
  ⟨by rw [h.self]; exact h.lt, h.le, h.epc, by have := h.cur; have e : big = 4611686018427387904 := rfl; omega⟩
theorem Inv.cl {o : Nat → Nat} {i : Nat} {v : Vw} (h : Inv o i v) {s : Nat} (hs : s < 16384) : v.cl i s = (o s == i) := by
  unfold Vw.cl
  by_cases e : o s = i
  · rw [h.has s hs e, e]
  · have hn : ¬ v.own s = i := fun c => by
      rcases h.own s hs with c2 | c2
      · have := h.lt; omega
      · exact e (c2.symm.trans c)
    rw [beq_eq_false_iff_ne.2 hn, beq_eq_false_iff_ne.2 e]
theorem Inv.tell {o : Nat → Nat} {i : Nat} {v : Vw} (h : Inv o i v) {k : Int} (hk : k = 1 ∨ k = 2) : GoodP o i (tellV v k) := by
  refine ⟨hk, by show (v.self : Int) = _; rw [h.self], rfl, by show v.ep v.self = _; rw [h.self, h.mine], h.epc _, h.cur, fun s hs => ?_⟩
  show v.cl v.self s = _
  rw [h.self]
  exact h.cl hs
theorem GoodP.right {o : Nat → Nat} {n : Nat} {p : Pk} (h : GoodP o n p) (hn : n < 64) : rightP p = true := by
  refine rightP_iff.2 ⟨?_, ?_, ?_, ?_, h.cur1⟩
  all_goals have hk := h.kind
  all_goals have hf := h.frm
  all_goals have ho := h.of_
  · rcases hk with e | e <;> omega
  · rcases hk with e | e <;> omega
  · omega
  · rcases hk with e | e <;> simp [e, ho]
theorem GoodP.seen {o : Nat → Nat} {n i : Nat} {p : Pk} {v : Vw} (h : GoodP o n p) (hi : Inv o i v) (hn : n < 64) (hne : n ≠ i) : seen v p = true := by
  have e : big = 4611686018427387904 := rfl
  have h2 := h.cur2
  have h3 : p.frm ≠ (v.self : Int) := by rw [h.frm, hi.self]; omega
  have h4 : ¬ p.kind = 3 := by rcases h.kind with e | e <;> omega
  unfold Go.Proofs.YtbfllifgmlkndaaGreatDoor.seen
  rw [h.right hn, decide_eq_true (by omega : p.cur ≤ big), decide_eq_true h3, decide_eq_false h4]
  rfl
theorem GoodP.ofN {o : Nat → Nat} {n : Nat} {p : Pk} (h : GoodP o n p) : ofN p = n := by
  unfold Go.Proofs.YtbfllifgmlkndaaGreatDoor.ofN
  rw [if_neg (by rcases h.kind with e | e <;> omega), h.frm, Int.toNat_natCast]
/-- what a node sees behind a packet that another one told of itself -/
theorem Inv.take {o : Nat → Nat} {n i : Nat} {p : Pk} {v : Vw} (hi : Inv o i v) (h : GoodP o n p) (hn : n < 64) (hne : n ≠ i) :
    Inv o i (takeV v p) ∧ (∀ s, s < 16384 → o s = n → (takeV v p).own s = n) ∧ (∀ s, s < 16384 → v.own s ≠ 64 → (takeV v p).own s = v.own s) ∧ answV v p = if p.kind = 1 then [tellV (takeV v p) 2] else [] := by
  have hse := h.seen hi hn hne
  have hof := h.ofN
  have hle : (take1 v p).ep (ofN p) ≤ p.epoch := by
    rw [hof, h.epoch]
    show v.ep n ≤ n + 1
    rcases hi.ep n with e | e <;> omega
  have e2 : take2 v p = claimV (take1 v p) n p := by
    unfold take2
    rw [if_pos hle, hof]
  have hep : ∀ m, (take2 v p).ep m = if m = n then n + 1 else v.ep m := fun m => by
    rw [e2, ← h.epoch]
    rfl
  have hself : (take2 v p).self = i := (take2_self v p).trans hi.self
  have e3 : take3 v p = take2 v p := by
    unfold take3
    rw [if_neg]
    rintro ⟨-, c, -⟩
    rw [hself, hep, if_neg (fun c => hne c.symm), hi.mine, h.epoch] at c
    omega
  have eT : takeV v p = take2 v p := by
    unfold takeV
    rw [if_pos hse, e3]
  have hown : ∀ s, (take2 v p).own s = if p.cl s then (if v.own s = 64 ∨ v.own s = n ∨ (take1 v p).ep (v.own s) < p.epoch then n else v.own s) else (if v.own s = n then 64 else v.own s) := fun s => by rw [e2]; rfl
  have hown2 : ∀ s, s < 16384 → (take2 v p).own s = if o s = n then n else v.own s := fun s hs => by
    rw [hown s, h.cl s hs]
    by_cases e : o s = n
    · rw [beq_iff_eq.2 e, if_pos rfl, if_pos e]
      rcases hi.own s hs with c | c
      · rw [if_pos (.inl c)]
      · rw [if_pos (.inr (.inl (c.trans e)))]
    · rw [beq_eq_false_iff_ne.2 e, if_neg (by decide), if_neg e, if_neg]
      intro c
      rcases hi.own s hs with c2 | c2
      · omega
      · exact e (c2.symm.trans c)
  have hcur : (take2 v p).cur = max v.cur p.cur := take2_cur v p
  have hInv : Inv o i (take2 v p) := by
    refine ⟨hself, hi.lt, ?_, fun m => ?_, ?_, fun m => ?_, fun s hs => ?_, fun s hs c => ?_, fun s => ?_⟩
    · rw [hep, if_neg (fun c => hne c.symm)]; exact hi.mine
    · rw [hep]
      by_cases e : m = n
      · rw [if_pos e, e]; exact .inr rfl
      · rw [if_neg e]; exact hi.ep m
    · rw [hcur]; have := hi.cur; have := h.cur2; omega
    · rw [hep, hcur]
      have h1 := hi.epc m
      have h2 := h.cur1
      rw [h.epoch] at h2
      split <;> omega
    · rw [hown2 s hs]
      by_cases e : o s = n
      · rw [if_pos e, e]; exact .inr rfl
      · rw [if_neg e]; exact hi.own s hs
    · rw [hown2 s hs, if_neg (fun e => hne (e.symm.trans c))]
      exact hi.has s hs c
    · rw [hown s]
      have := hi.le s
      split <;> split <;> omega
  rw [eT]
  refine ⟨hInv, fun s hs e => by rw [hown2 s hs, if_pos e], fun s hs c => ?_, ?_⟩
  · rw [hown2 s hs]
    by_cases e : o s = n
    · rw [if_pos e]
      rcases hi.own s hs with c2 | c2
      · exact absurd c2 c
      · rw [c2, e]
    · rw [if_neg e]
  · have hb : ∀ (f k : Nat), k + f ≤ top → beatV (take2 v p) p f k = none := fun f => by
      induction f with
      | zero => exact fun _ _ => rfl
      | succ f ih =>
        intro k hk
        unfold beatV
        have hw : worse (take2 v p) p k = false := by
          unfold worse
          have hk' : k < 16384 := by unfold top at hk; omega
          rw [h.cl k hk', hown2 k hk', h.frm, Int.toNat_natCast]
          by_cases e : o k = n
          · rw [if_pos e]; simp
          · rw [beq_eq_false_iff_ne.2 e]; simp
        rw [hw]
        exact ih (k + 1) (by omega)
    unfold answV
    rw [if_pos ⟨hse, by rcases h.kind with e | e <;> omega⟩, eT]
    unfold outV
    rw [hb top 0 (by omega)]
    rcases h.kind with e | e
    · rw [if_pos (.inl e), if_pos e]; rfl
    · rw [if_neg (by omega), if_neg (by omega)]; rfl
theorem Inv.new {o : Nat → Nat} {i : Nat} {S : Nat → Bool} (hi : i < 63) (hS : ∀ s, s < 16384 → S s = (o s == i)) : Inv o i (newV i S (i + 1)) := by
  refine ⟨rfl, by omega, ?_, fun m => ?_, ?_, fun m => ?_, fun s hs => ?_, fun s hs c => ?_, fun s => ?_⟩
  · show (if i = i then i + 1 else 0) = _
    rw [if_pos rfl]
  · show (if m = i then i + 1 else 0) = 0 ∨ (if m = i then i + 1 else 0) = m + 1
    split <;> omega
  · show i + 1 ≤ 64
    omega
  · show (if m = i then i + 1 else 0) ≤ i + 1
    split <;> omega
  · show (if S s then i else 64) = 64 ∨ (if S s then i else 64) = o s
    rw [hS s hs]
    by_cases e : o s = i
    · rw [beq_iff_eq.2 e, if_pos rfl]; exact .inr e.symm
    · rw [beq_eq_false_iff_ne.2 e]; exact .inl (if_neg (by decide))
  · show (if S s then i else 64) = i
    rw [hS s hs, beq_iff_eq.2 c, if_pos rfl]
  · show (if S s then i else 64) ≤ 64
    split <;> omega

end Go.Proofs.YtbfllifgmlkndaaGreatDoor
