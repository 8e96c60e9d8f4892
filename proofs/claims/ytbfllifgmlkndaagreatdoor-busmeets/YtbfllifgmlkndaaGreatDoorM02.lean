/- Text, CrcBits, Shelf, Counts. -/
import Derived.Lib.ItoaNum
import Derived.Lib.ItoaMem
import Derived.Lib.AtoiAll
import Derived.Lib.CutLaws
import Derived.Test.YtbfllifgmlkndaaGreatDoorM01
import Derived.Test.YtbfllifgmlkndaaGreatDoorProg
import Derived.Shelf.Strings.OnBuilder
import Derived.Shelf.LaysM
import Derived.Shelf.Strconv.Itoa3
import Derived.Shelf.LaysC
import Derived.Shelf.Strconv.AtoiAll
import Derived.Shelf.Strconv.ErrVarAll
import Derived.Shelf.Strings.Search2
import Derived.Shelf.Strconv.AppendIntPublic10
namespace Go.Proofs.YtbfllifgmlkndaaGreatDoor
namespace Slot

/-- around the first c -/
def cut (c : UInt8) : List UInt8 → List UInt8 × List UInt8 × Bool
  | [] => ([], [], false)
  | b :: l => if b = c then ([], l, true) else (b :: (cut c l).1, (cut c l).2.1, (cut c l).2.2)
theorem cut_hit {c : UInt8} : ∀ {p r : List UInt8}, c ∉ p → cut c (p ++ c :: r) = (p, r, true)
  | [], r, _ => by simp [cut]
  | b :: p, r, h => by
    have hb : ¬ b = c := fun e => h (by simp [e])
    have := cut_hit (c := c) (p := p) (r := r) (fun m => h (List.mem_cons_of_mem _ m))
    simp [cut, hb, this]
theorem cut_miss {c : UInt8} : ∀ {l : List UInt8}, c ∉ l → cut c l = (l, [], false)
  | [], _ => rfl
  | b :: l, h => by
    have hb : ¬ b = c := fun e => h (by simp [e])
    have := cut_miss (c := c) (l := l) (fun m => h (List.mem_cons_of_mem _ m))
    simp [cut, hb, this]
theorem cut_cases (c : UInt8) : ∀ l : List UInt8, (∃ p r, l = p ++ c :: r ∧ c ∉ p) ∨ c ∉ l
  | [] => Or.inr (by simp)
  | b :: l => by
    by_cases hb : b = c
    · subst hb; exact Or.inl ⟨[], l, rfl, by simp⟩
    · rcases cut_cases c l with ⟨p, r, rfl, h⟩ | h
      · exact Or.inl ⟨b :: p, r, rfl, by simp [h, Ne.symm hb]⟩
      · exact Or.inr (by simp [h, Ne.symm hb])
theorem cut_lib (c : UInt8) : ∀ l : List UInt8, Lib.cut l [c] = cut c l := fun l => by
  have key : ∀ l : List UInt8, (c ∉ l → Lib.index l [c] = -1) ∧ (∀ p r, l = p ++ c :: r → c ∉ p → Lib.index l [c] = p.length) := by
    intro l
    induction l with
    | nil => exact ⟨fun _ => rfl, fun p r h _ => by simp at h⟩
    | cons b l ih =>
      constructor
      · intro h
        have hb : ¬ c = b := fun e => h (by simp [e])
        have := ih.1 (fun m => h (List.mem_cons_of_mem _ m))
        simp [Lib.index, List.isPrefixOf, hb, this]
      · intro p r h hp
        cases p with
        | nil =>
          simp at h
          simp [Lib.index, List.isPrefixOf, h.1]
        | cons x p =>
          simp at h
          obtain ⟨rfl, h2⟩ := h
          have hb : ¬ c = b := fun e => hp (by simp [e])
          have := ih.2 p r h2 (fun m => hp (List.mem_cons_of_mem _ m))
          have ne : ¬ ((p.length : Int) = -1) := by omega
          simp [Lib.index, List.isPrefixOf, hb, this, ne]
  rcases cut_cases c l with ⟨p, r, rfl, h⟩ | h
  · rw [cut_hit h]
    unfold Lib.cut
    rw [(key _).2 p r rfl h, if_pos (by omega)]
    simp
  · rw [cut_miss h]
    unfold Lib.cut
    rw [(key _).1 h, if_neg (by omega)]

/-- a number's digits -/
abbrev dec (n : Nat) : List UInt8 := Lib.decDigits n
theorem dec_digit (n : Nat) : ∀ b ∈ dec n, 48 ≤ b.toNat ∧ b.toNat ≤ 57 := by
  induction n using Nat.strongRecOn with
  | ind n ih =>
    intro b hb
    unfold dec at hb
    rw [Lib.decDigits] at hb
    split at hb
    · have e := List.mem_singleton.1 hb
      rw [e, UInt8.toNat_ofNat']
      omega
    · rcases List.mem_append.1 hb with hb | hb
      · exact ih (n / 10) (by omega) b hb
      · have e := List.mem_singleton.1 hb
        rw [e, UInt8.toNat_ofNat']
        omega
theorem dec_ne (n : Nat) : dec n ≠ [] := by
  unfold dec; rw [Lib.decDigits]; split <;> simp
theorem dec_not {n : Nat} {c : UInt8} (h : c.toNat < 48) : c ∉ dec n := fun m => by
  have := dec_digit n c m
  omega
theorem parse_dec_aux (l : List UInt8) : ∀ acc d, (∀ b ∈ l, 48 ≤ b.toNat ∧ b.toNat ≤ 57) → 48 ≤ d.toNat → d.toNat ≤ 57 →
    Lib.parseUint10 acc (l ++ [d]) = (match Lib.parseUint10 acc l with | .ok u => if 1844674407370955162 ≤ u then .range else if 18446744073709551616 ≤ u * 10 + (d.toNat - 48) then .range else .ok (u * 10 + (d.toNat - 48)) | e => e) := by
  induction l with
  | nil => intro acc d _ h1 h2; simp [Lib.parseUint10, h1, h2]
  | cons c l ih =>
    intro acc d h h1 h2
    have hc := h c (by simp)
    simp only [List.cons_append, Lib.parseUint10, if_pos hc]
    split
    · rfl
    · split
      · rfl
      · exact ih _ d (fun b hb => h b (by simp [hb])) h1 h2
theorem parse_dec (n : Nat) (hn : n < 1000000) : Lib.parseUint10 0 (dec n) = .ok n := by
  induction n using Nat.strongRecOn with
  | ind n ih =>
    unfold dec
    rw [Lib.decDigits]
    split
    · have e : (UInt8.ofNat (48 + n)).toNat = 48 + n := by rw [UInt8.toNat_ofNat']; omega
      simp only [Lib.parseUint10, e]
      rw [if_pos (by omega), if_neg (by omega), if_neg (by omega)]
      congr 1
      omega
    · have e : (UInt8.ofNat (48 + n % 10)).toNat = 48 + n % 10 := by rw [UInt8.toNat_ofNat']; omega
      rw [parse_dec_aux _ 0 _ (dec_digit _) (by omega) (by omega), ih (n / 10) (by omega) (by omega)]
      simp only [e]
      rw [if_neg (by omega), if_neg (by omega)]
      congr 1
      omega
theorem atoi_dec (n : Nat) (hn : n < 1000000) : Lib.atoiAll (dec n) = .ok (n : Int) := by
  have hp := parse_dec n hn
  have hd := dec_digit n
  have hne := dec_ne n
  generalize dec n = l at hp hd hne
  cases l with
  | nil => exact absurd rfl hne
  | cons c r =>
    have hc := hd c (by simp)
    have h43 : ¬ (c.toNat = 43 ∨ c.toNat = 45) := by omega
    have h45 : ¬ c.toNat = 45 := by omega
    have hm : Lib.parseMag (c :: r) = .ok n := by unfold Lib.parseMag; rw [if_neg hne, hp]
    unfold Lib.atoiAll
    simp only [if_neg h43, hm]
    rw [if_neg (by omega), if_neg (by omega), if_neg h45]

/-- a slot's digits -/
def readNum (t : List UInt8) : Option Nat :=
  match Lib.atoiAll t with
  | .ok v => if 0 ≤ v ∧ v < 16384 ∧ Lib.itoa v = t then some v.toNat else none
  | _ => none
theorem readNum_iff (t : List UInt8) (n : Nat) : readNum t = some n ↔ n < top ∧ t = dec n := by
  constructor
  · intro h
    unfold readNum at h
    split at h
    · rename_i v hv
      split at h
      · rename_i hh
        injection h with h
        have e : v = (n : Int) := by omega
        subst e
        rw [Lib.itoa_nonneg] at hh
        exact ⟨by unfold top; omega, hh.2.2.symm⟩
      · cases h
    · cases h
  · rintro ⟨h, rfl⟩
    unfold readNum
    unfold top at h
    rw [atoi_dec n (by omega)]
    simp only [Lib.itoa_nonneg]
    rw [if_pos ⟨by omega, by omega, trivial⟩]
    rfl
/-- how a range is written -/
def piece (p : Nat × Nat) : List UInt8 := dec p.1 ++ if p.1 < p.2 then 45 :: dec p.2 else []
/-- how a range is read -/
def readRange (t : List UInt8) : Option (Nat × Nat) :=
  match readNum (cut 45 t).1 with
  | none => none
  | some f => if (cut 45 t).2.2 = false then some (f, f) else
    match readNum (cut 45 t).2.1 with
    | none => none
    | some u => if f < u then some (f, u) else none
theorem piece_not (p : Nat × Nat) : (32 : UInt8) ∉ piece p := by
  unfold piece
  intro h
  rcases List.mem_append.1 h with h | h
  · exact dec_not (by decide) h
  · split at h
    · rcases List.mem_cons.1 h with h | h
      · exact absurd h (by decide)
      · exact dec_not (by decide) h
    · cases h
theorem piece_ne (p : Nat × Nat) : piece p ≠ [] := by
  unfold piece
  intro h
  exact dec_ne _ (List.append_eq_nil_iff.1 h).1
theorem readRange_iff (t : List UInt8) (f u : Nat) : readRange t = some (f, u) ↔ f ≤ u ∧ u < top ∧ t = piece (f, u) := by
  constructor
  · intro h
    unfold readRange at h
    split at h
    · cases h
    · rename_i a ha
      rw [readNum_iff] at ha
      rcases cut_cases 45 t with ⟨p, r, rfl, hp⟩ | hp
      · rw [cut_hit hp] at h ha
        simp only [Bool.true_eq_false, if_false] at h
        split at h
        · cases h
        · rename_i b hb
          rw [readNum_iff] at hb
          split at h
          · injection h with h
            injection h with h1 h2
            subst h1 h2
            rename_i hlt
            refine ⟨by omega, hb.1, ?_⟩
            simp only [piece, if_pos hlt]
            rw [show p = dec a from ha.2, show r = dec b from hb.2]
          · cases h
      · rw [cut_miss hp] at h ha
        simp only [if_true] at h
        injection h with h
        injection h with h1 h2
        subst h1 h2
        exact ⟨Nat.le_refl _, ha.1, by simp only [piece, Nat.lt_irrefl, if_false, List.append_nil]; exact ha.2⟩
  · rintro ⟨h1, h2, rfl⟩
    unfold readRange piece
    have hf : (45 : UInt8) ∉ dec f := dec_not (by decide)
    have hr := (readNum_iff (dec f) f).2 ⟨by omega, rfl⟩
    have hu := (readNum_iff (dec u) u).2 ⟨h2, rfl⟩
    by_cases hlt : f < u
    · simp only [if_pos hlt]
      rw [cut_hit hf]
      simp only [hr, hu, hlt, if_true, Bool.true_eq_false, if_false]
    · have e : f = u := by omega
      subst e
      simp only [Nat.lt_irrefl, if_false, List.append_nil]
      rw [cut_miss hf]
      simp only [hr, if_true]

/-- how ranges are written -/
def print : List (Nat × Nat) → List UInt8
  | [] => []
  | [p] => piece p
  | p :: q :: l => piece p ++ 32 :: print (q :: l)
theorem print_snoc (l : List (Nat × Nat)) (p : Nat × Nat) : print (l ++ [p]) = print l ++ (if l = [] then [] else [32]) ++ piece p := by
  induction l with
  | nil => simp [print]
  | cons q l ih =>
    cases l with
    | nil => simp [print]
    | cons r l =>
      simp only [List.cons_append, print, ih] at ih ⊢
      simp
theorem print_cons (p : Nat × Nat) (l : List (Nat × Nat)) (h : l ≠ []) : print (p :: l) = piece p ++ 32 :: print l := by
  cases l with
  | nil => exact absurd rfl h
  | cons q l => rfl
/-- how ranges are read -/
def parse : Nat → List UInt8 → Nat → Option (List (Nat × Nat))
  | 0, _, _ => none
  | fuel + 1, s, least =>
    match readRange (cut 32 s).1 with
    | none => none
    | some p => if p.1 < least then none else if (cut 32 s).2.2 = true then (parse fuel (cut 32 s).2.1 (p.2 + 2)).map (p :: ·) else some [p]
/-- rising, and none touches the next -/
def Chain : Nat → List (Nat × Nat) → Prop
  | _, [] => True
  | m, p :: l => m ≤ p.1 ∧ p.1 ≤ p.2 ∧ p.2 < top ∧ Chain (p.2 + 2) l
theorem parse_print : ∀ (l : List (Nat × Nat)) (fuel m : Nat), l ≠ [] → l.length ≤ fuel → Chain m l → parse fuel (print l) m = some l
  | [], _, _, h, _, _ => absurd rfl h
  | p :: l, 0, _, _, h, _ => by simp at h
  | p :: l, fuel + 1, m, _, hf, ⟨h1, h2, h3, h4⟩ => by
    have hr := (readRange_iff (piece p) p.1 p.2).2 ⟨h2, h3, rfl⟩
    by_cases e : l = []
    · subst e
      unfold parse
      rw [show print [p] = piece p from rfl, cut_miss (piece_not p)]
      simp only [hr, Bool.false_eq_true, if_false]
      rw [if_neg (by simpa using h1)]
    · have ih := parse_print l fuel _ e (by simpa using hf) h4
      unfold parse
      rw [print_cons _ _ e, cut_hit (piece_not p)]
      simp only [hr, if_true]
      rw [if_neg (by simpa using h1), ih]
      rfl
theorem parse_step (fuel : Nat) (s : List UInt8) (m : Nat) : parse (fuel + 1) s m = (match readRange (cut 32 s).1 with
    | none => none
    | some p => if p.1 < m then none else if (cut 32 s).2.2 = true then (parse fuel (cut 32 s).2.1 (p.2 + 2)).map (p :: ·) else some [p]) := rfl
theorem cut_less {c : UInt8} {l : List UInt8} (h : (cut c l).2.2 = true) : (cut c l).2.1.length < l.length := by
  rcases cut_cases c l with ⟨p, r, rfl, hp⟩ | hp
  · rw [cut_hit hp]; simp; omega
  · rw [cut_miss hp] at h; cases h
theorem readRange_lt {t : List UInt8} {p : Nat × Nat} (h : readRange t = some p) : p.1 ≤ p.2 ∧ p.2 < top := by
  have := (readRange_iff t p.1 p.2).1 h
  exact ⟨this.1, this.2.1⟩
theorem print_ne : ∀ {l : List (Nat × Nat)}, l ≠ [] → print l ≠ []
  | [], h => absurd rfl h
  | [p], _ => piece_ne p
  | p :: q :: l, _ => by simp [print]
theorem print_length : ∀ l : List (Nat × Nat), l.length ≤ (print l).length
  | [] => Nat.le_refl _
  | [p] => by
    have := List.length_pos_iff.2 (piece_ne p)
    exact this
  | p :: q :: l => by
    have := print_length (q :: l)
    simp only [print, List.length_append, List.length_cons] at this ⊢
    omega
/-- the ranges that a text says -/
def parseAll (s : List UInt8) : Option (List (Nat × Nat)) := if s = [] then some [] else parse (s.length + 1) s 0
theorem parseAll_print {l : List (Nat × Nat)} (h : Chain 0 l) : parseAll (print l) = some l := by
  unfold parseAll
  by_cases e : l = []
  · subst e; rfl
  · rw [if_neg (print_ne e)]
    exact parse_print l _ _ e (Nat.le_succ_of_le (print_length l)) h
theorem Chain.ofList : ∀ {l : List (Nat × Nat)} {m : Nat}, Chain m l → ∀ n, n < m → Slot.ofList l n = false
  | [], _, _, _, _ => rfl
  | (f, t) :: l, m, ⟨h1, h2, h3, h4⟩, n, hn => by
    have := Chain.ofList h4 n (by simp only at h1 h2 ⊢; omega)
    simp only [Slot.ofList, List.any_cons] at this ⊢
    rw [this]
    simp; omega
theorem Runs.chain {S : Nat → Bool} : ∀ {l : List (Nat × Nat)} {k : Nat}, Runs S k l → Chain k l
  | [], _, _ => trivial
  | (f, t) :: l, k, ⟨h1, h2, h3, _, h5, h6, h7⟩ => by
    refine ⟨h1, h2, h3, ?_⟩
    cases l with
    | nil => trivial
    | cons q l =>
      obtain ⟨g1, g2, g3, g4⟩ := Runs.chain h7
      refine ⟨?_, g2, g3, g4⟩
      obtain ⟨f', t'⟩ := q
      obtain ⟨_, k2, k3, _, k5, _⟩ := h7
      simp only at g1 g2 g3 ⊢
      rcases Nat.lt_or_ge f' (t + 2) with h | h
      · have e : f' = t + 1 := by omega
        subst e
        have a := h6 (by omega)
        have b := k5 (t + 1) (Nat.le_refl _) k2
        rw [a] at b; cases b
      · exact h
end Slot
end Go.Proofs.YtbfllifgmlkndaaGreatDoor

namespace Go.Proofs.YtbfllifgmlkndaaGreatDoor.Crc

/-- one bit more, the highest of a byte first -/
def bstep (c : BitVec 16) (b : Bool) : BitVec 16 := (c <<< 1) ^^^ (if (c.msb ^^ b) then 0x1021#16 else 0#16)
def bits8 (x : BitVec 8) : List Bool := [x.getLsbD 7, x.getLsbD 6, x.getLsbD 5, x.getLsbD 4, x.getLsbD 3, x.getLsbD 2, x.getLsbD 1, x.getLsbD 0]
/-- one byte more -/
def step (c : BitVec 16) (x : BitVec 8) : BitVec 16 := (bits8 x).foldl bstep c
def more (c : BitVec 16) (l : List (BitVec 8)) : BitVec 16 := l.foldl step c

/-- the program's table of half bytes -/
def tabL : List (BitVec 16) := [0x0000#16, 0x1021#16, 0x2042#16, 0x3063#16, 0x4084#16, 0x50a5#16, 0x60c6#16, 0x70e7#16, 0x8108#16, 0x9129#16, 0xa14a#16, 0xb16b#16, 0xc18c#16, 0xd1ad#16, 0xe1ce#16, 0xf1ef#16]
def tabB (i : BitVec 4) : BitVec 16 := tabL.getD i.toNat 0#16
def halfB (c : BitVec 16) (h : BitVec 4) : BitVec 16 := (c <<< 4) ^^^ tabB (c.extractLsb' 12 4 ^^^ h)

theorem bstep_xor (c d : BitVec 16) (a b : Bool) : bstep (c ^^^ d) (a ^^ b) = bstep c a ^^^ bstep d b := by
  unfold bstep
  rw [BitVec.shiftLeft_xor_distrib, BitVec.msb_xor]
  generalize c <<< 1 = p
  generalize d <<< 1 = q
  apply BitVec.eq_of_getLsbD_eq
  intro i _
  simp only [BitVec.getLsbD_xor]
  cases c.msb <;> cases d.msb <;> cases a <;> cases b <;> simp <;> cases p.getLsbD i <;> cases q.getLsbD i <;> cases (4129#16).getLsbD i <;> rfl

theorem step_xor (c d : BitVec 16) (x y : BitVec 8) : step (c ^^^ d) (x ^^^ y) = step c x ^^^ step d y := by
  simp only [step, bits8, List.foldl, BitVec.getLsbD_xor, bstep_xor]

theorem more_append (c : BitVec 16) (l m : List (BitVec 8)) : more c (l ++ m) = more (more c l) m := List.foldl_append

theorem split16 (c : BitVec 16) : c = (c.setWidth 8).setWidth 16 ^^^ (((c >>> 8).setWidth 8).setWidth 16 <<< 8) := by
  apply BitVec.eq_of_getLsbD_eq
  intro i hi
  by_cases h8 : i < 8
  · simp [h8, hi]
  · simp [h8, hi]
    have h1 : i - 8 < 8 := by omega
    rw [show 8 + (i - 8) = i by omega, BitVec.getLsbD_eq_getElem hi]
    simp [h1]

theorem lin_ext (f g : BitVec 16 → BitVec 16) (hf : ∀ a b, f (a ^^^ b) = f a ^^^ f b) (hg : ∀ a b, g (a ^^^ b) = g a ^^^ g b)
    (h0 : ∀ x : BitVec 8, f (x.setWidth 16) = g (x.setWidth 16)) (h1 : ∀ x : BitVec 8, f (x.setWidth 16 <<< 8) = g (x.setWidth 16 <<< 8)) (c : BitVec 16) : f c = g c := by
  rw [split16 c, hf, hg, h0, h1]

theorem tab_xor : ∀ i j : BitVec 4, tabB (i ^^^ j) = tabB i ^^^ tabB j := by decide +kernel
theorem ext_xor (c d : BitVec 16) : (c ^^^ d).extractLsb' 12 4 = c.extractLsb' 12 4 ^^^ d.extractLsb' 12 4 := by
  apply BitVec.eq_of_getLsbD_eq
  intro i _
  simp
  cases decide (i < 4) <;> simp
theorem half_xor (c d : BitVec 16) (g h : BitVec 4) : halfB (c ^^^ d) (g ^^^ h) = halfB c g ^^^ halfB d h := by
  unfold halfB
  rw [BitVec.shiftLeft_xor_distrib, ext_xor, show c.extractLsb' 12 4 ^^^ d.extractLsb' 12 4 ^^^ (g ^^^ h) = (c.extractLsb' 12 4 ^^^ g) ^^^ (d.extractLsb' 12 4 ^^^ h) by ac_rfl, tab_xor]
  ac_rfl

/-- what the program does with a byte -/
theorem code_step (c : BitVec 16) (x : BitVec 8) : halfB (halfB c (x.extractLsb' 4 4)) (x.extractLsb' 0 4) = step c x := by
  have e4 : ∀ y : BitVec 8, (0#8 ^^^ y).extractLsb' 4 4 = (0#8).extractLsb' 4 4 ^^^ y.extractLsb' 4 4 := by decide +kernel
  have e0 : ∀ y : BitVec 8, (0#8 ^^^ y).extractLsb' 0 4 = (0#8).extractLsb' 0 4 ^^^ y.extractLsb' 0 4 := by decide +kernel
  have hx : ∀ y : BitVec 8, halfB (halfB 0#16 (y.extractLsb' 4 4)) (y.extractLsb' 0 4) = step 0#16 y := by decide +kernel
  have hc : ∀ d : BitVec 16, halfB (halfB d ((0#8).extractLsb' 4 4)) ((0#8).extractLsb' 0 4) = step d 0#8 := by
    refine lin_ext _ _ (fun a b => ?_) (fun a b => ?_) (by decide +kernel) (by decide +kernel)
    · have z4 : (0#8).extractLsb' 4 4 = (0#8).extractLsb' 4 4 ^^^ (0#8).extractLsb' 4 4 := by decide
      have z0 : (0#8).extractLsb' 0 4 = (0#8).extractLsb' 0 4 ^^^ (0#8).extractLsb' 0 4 := by decide
      conv => lhs; rw [z0, z4]
      rw [half_xor, half_xor]
    · conv => lhs; rw [show (0#8) = 0#8 ^^^ 0#8 by decide]
      rw [step_xor]
  have e : x = 0#8 ^^^ x := by simp
  have d : c = c ^^^ 0#16 := by simp
  conv => lhs; rw [e, d, e4, e0, half_xor, half_xor, hc, hx, ← step_xor, ← e, ← d]

end Go.Proofs.YtbfllifgmlkndaaGreatDoor.Crc

namespace Go.Proofs.YtbfllifgmlkndaaGreatDoor
open Go.Shelf
def Tryz.lays156_ren : Go.Shelf.Ren := ⟨fun | 156 => 100 | 165 => 106 | 166 => 107 | 169 => 108 | 240 => 115 | 241 => 116 | 276 => 128 | 277 => 129 | n => n, fun | 31 => 154 | 9 => 9 | 3 => 3 | 4 => 4 | 0 => 0 | 20 => 20 | 72 => 163 | 76 => 167 | 70 => 161 | 37 => 126 | 75 => 166 | 127 => 173 | 164 => 181 | 5 => 5 | 80 => 169 | n => n, fun | n => n⟩
theorem Tryz.lays156 : Go.Proofs.Lays.n156 Tryz.prog Tryz.lays156_ren := {
  mixed := by kernel_rfl
  f156 := Tryz.func100.trans (congrArg some (by kernel_rfl))
  f165 := Tryz.func106.trans (congrArg some (by kernel_rfl))
  f166 := Tryz.func107.trans (congrArg some (by kernel_rfl))
  f169 := Tryz.func108.trans (congrArg some (by kernel_rfl))
  f240 := Tryz.func115.trans (congrArg some (by kernel_rfl))
  f241 := Tryz.func116.trans (congrArg some (by kernel_rfl))
  f276 := Tryz.func128.trans (congrArg some (by kernel_rfl))
  f277 := Tryz.func129.trans (congrArg some (by kernel_rfl))
  t0 := Tryz.underlying0
  a0 := Tryz.isAgg0
  z0 := Tryz.sizeOf0
  v0 := Tryz.zeroValue0
  t3 := Tryz.underlying3
  a3 := Tryz.isAgg3
  z3 := Tryz.sizeOf3
  v3 := Tryz.zeroValue3
  t4 := Tryz.underlying4
  a4 := Tryz.isAgg4
  z4 := Tryz.sizeOf4
  v4 := Tryz.zeroValue4
  t9 := Tryz.underlying9
  a9 := Tryz.isAgg9
  z9 := Tryz.sizeOf9
  v9 := Tryz.zeroValue9
  t20 := Tryz.underlying20
  a20 := Tryz.isAgg20
  z20 := Tryz.sizeOf20
  v20 := Tryz.zeroValue20
  t31 := Tryz.underlying154
  a31 := Tryz.isAgg154
  z31 := Tryz.sizeOf154
  v31 := Tryz.zeroValue154
  t37 := Tryz.underlying126
  a37 := Tryz.isAgg126
  z37 := Tryz.sizeOf126
  v37 := Tryz.zeroValue126
  t70 := Tryz.underlying161
  a70 := Tryz.isAgg161
  z70 := Tryz.sizeOf161
  v70 := Tryz.zeroValue161
  t72 := Tryz.underlying163
  a72 := Tryz.isAgg163
  z72 := Tryz.sizeOf163
  v72 := Tryz.zeroValue163
  t75 := Tryz.underlying166
  a75 := Tryz.isAgg166
  z75 := Tryz.sizeOf166
  v75 := Tryz.zeroValue166
  t76 := Tryz.underlying167
  a76 := Tryz.isAgg167
  z76 := Tryz.sizeOf167
  v76 := Tryz.zeroValue167
  t127 := Tryz.underlying173
  a127 := Tryz.isAgg173
  z127 := Tryz.sizeOf173
  v127 := Tryz.zeroValue173
  t164 := Tryz.underlying181
  a164 := Tryz.isAgg181
  z164 := Tryz.sizeOf181
  v164 := Tryz.zeroValue181 }
def Tryz.laysM171_ren : Go.Shelf.Ren := ⟨fun | 171 => 113 | 243 => 123 | 246 => 137 | 283 => 124 | 284 => 125 | 285 => 126 | 286 => 127 | 129 => 139 | 317 => 138 | 318 => 140 | 319 => 141 | 320 => 142 | 337 => 146 | 338 => 147 | n => n, fun | 3 => 3 | 9 => 9 | 2 => 2 | 4 => 4 | 171 => 176 | 0 => 0 | 53 => 22 | 37 => 126 | 5 => 5 | 173 => 179 | 212 => 195 | 51 => 184 | 20 => 20 | 213 => 196 | 46 => 148 | 232 => 209 | 233 => 210 | n => n, fun | 17 => 2 | 18 => 5 | 19 => 6 | n => n⟩
theorem Tryz.laysM171 : Go.Proofs.LaysM.n171 Tryz.prog Tryz.laysM171_ren := {
  mixed := by kernel_rfl
  f129 := Tryz.func139.trans (congrArg some (by kernel_rfl))
  f171 := Tryz.func113.trans (congrArg some (by kernel_rfl))
  f243 := Tryz.func123.trans (congrArg some (by kernel_rfl))
  f246 := Tryz.func137.trans (congrArg some (by kernel_rfl))
  f283 := Tryz.func124.trans (congrArg some (by kernel_rfl))
  f284 := Tryz.func125.trans (congrArg some (by kernel_rfl))
  f285 := Tryz.func126.trans (congrArg some (by kernel_rfl))
  f286 := Tryz.func127.trans (congrArg some (by kernel_rfl))
  f317 := Tryz.func138.trans (congrArg some (by kernel_rfl))
  f318 := Tryz.func140.trans (congrArg some (by kernel_rfl))
  f319 := Tryz.func141.trans (congrArg some (by kernel_rfl))
  f320 := Tryz.func142.trans (congrArg some (by kernel_rfl))
  f337 := Tryz.func146.trans (congrArg some (by kernel_rfl))
  f338 := Tryz.func147.trans (congrArg some (by kernel_rfl))
  t0 := Tryz.underlying0
  a0 := Tryz.isAgg0
  z0 := Tryz.sizeOf0
  v0 := Tryz.zeroValue0
  t2 := Tryz.underlying2
  a2 := Tryz.isAgg2
  z2 := Tryz.sizeOf2
  v2 := Tryz.zeroValue2
  t3 := Tryz.underlying3
  a3 := Tryz.isAgg3
  z3 := Tryz.sizeOf3
  v3 := Tryz.zeroValue3
  t4 := Tryz.underlying4
  a4 := Tryz.isAgg4
  z4 := Tryz.sizeOf4
  v4 := Tryz.zeroValue4
  t5 := Tryz.underlying5
  a5 := Tryz.isAgg5
  z5 := Tryz.sizeOf5
  v5 := Tryz.zeroValue5
  t9 := Tryz.underlying9
  a9 := Tryz.isAgg9
  z9 := Tryz.sizeOf9
  v9 := Tryz.zeroValue9
  t20 := Tryz.underlying20
  a20 := Tryz.isAgg20
  z20 := Tryz.sizeOf20
  v20 := Tryz.zeroValue20
  t37 := Tryz.underlying126
  a37 := Tryz.isAgg126
  z37 := Tryz.sizeOf126
  v37 := Tryz.zeroValue126
  t46 := Tryz.underlying148
  a46 := Tryz.isAgg148
  z46 := Tryz.sizeOf148
  v46 := Tryz.zeroValue148
  t51 := Tryz.underlying184
  a51 := Tryz.isAgg184
  z51 := Tryz.sizeOf184
  v51 := Tryz.zeroValue184
  t53 := Tryz.underlying22
  a53 := Tryz.isAgg22
  z53 := Tryz.sizeOf22
  v53 := Tryz.zeroValue22
  t171 := Tryz.underlying176
  a171 := Tryz.isAgg176
  z171 := Tryz.sizeOf176
  v171 := Tryz.zeroValue176
  t173 := Tryz.underlying179
  a173 := Tryz.isAgg179
  z173 := Tryz.sizeOf179
  v173 := Tryz.zeroValue179
  t212 := Tryz.underlying195
  a212 := Tryz.isAgg195
  z212 := Tryz.sizeOf195
  v212 := Tryz.zeroValue195
  t213 := Tryz.underlying196
  a213 := Tryz.isAgg196
  z213 := Tryz.sizeOf196
  t232 := Tryz.underlying209
  a232 := Tryz.isAgg209
  z232 := Tryz.sizeOf209
  v232 := Tryz.zeroValue209
  t233 := Tryz.underlying210
  a233 := Tryz.isAgg210
  z233 := Tryz.sizeOf210
  v233 := Tryz.zeroValue210
  g17 := by kernel_rfl
  g18 := by kernel_rfl
  g19 := by kernel_rfl
  i0 := by kernel_rfl
  i2 := by kernel_rfl
  i3 := by kernel_rfl
  i4 := by kernel_rfl
  i5 := by kernel_rfl
  i9 := by kernel_rfl
  i20 := by kernel_rfl
  i37 := by kernel_rfl
  i46 := by kernel_rfl
  i51 := by kernel_rfl
  i53 := by kernel_rfl
  i171 := by kernel_rfl
  i173 := by kernel_rfl
  i212 := by kernel_rfl
  i232 := by kernel_rfl
  i233 := by kernel_rfl
  m17 := by kernel_rfl
  m18 := by kernel_rfl
  m19 := by kernel_rfl }
def Tryz.laysC172_ren : Go.Shelf.Ren := ⟨fun | 172 => 111 | 244 => 121 | 245 => 122 | 247 => 132 | 279 => 133 | 280 => 134 | 281 => 135 | 282 => 136 | 287 => 143 | 316 => 144 | 171 => 113 | 205 => 145 | 321 => 148 | 322 => 149 | 243 => 123 | 246 => 137 | 283 => 124 | 284 => 125 | 285 => 126 | 286 => 127 | 129 => 139 | 317 => 138 | 318 => 140 | 319 => 141 | 320 => 142 | 337 => 146 | 338 => 147 | n => n, fun | 9 => 9 | 3 => 3 | 75 => 166 | 76 => 167 | 4 => 4 | 5 => 5 | 167 => 187 | 37 => 126 | 0 => 0 | 85 => 188 | 2 => 2 | 168 => 190 | 53 => 22 | 175 => 198 | 46 => 148 | 210 => 202 | 127 => 173 | 145 => 208 | 143 => 206 | 21 => 21 | 171 => 176 | 173 => 179 | 212 => 195 | 51 => 184 | 20 => 20 | 213 => 196 | 232 => 209 | 233 => 210 | 80 => 169 | n => n, fun | 15 => 3 | 16 => 4 | 17 => 2 | 18 => 5 | 19 => 6 | n => n⟩
theorem Tryz.laysC172 : Go.Proofs.LaysC.n172 Tryz.prog Tryz.laysC172_ren := {
  mixed := by kernel_rfl
  f129 := Tryz.func139.trans (congrArg some (by kernel_rfl))
  f171 := Tryz.func113.trans (congrArg some (by kernel_rfl))
  f172 := Tryz.func111.trans (congrArg some (by kernel_rfl))
  f205 := Tryz.func145.trans (congrArg some (by kernel_rfl))
  f243 := Tryz.func123.trans (congrArg some (by kernel_rfl))
  f244 := Tryz.func121.trans (congrArg some (by kernel_rfl))
  f245 := Tryz.func122.trans (congrArg some (by kernel_rfl))
  f246 := Tryz.func137.trans (congrArg some (by kernel_rfl))
  f247 := Tryz.func132.trans (congrArg some (by kernel_rfl))
  f279 := Tryz.func133.trans (congrArg some (by kernel_rfl))
  f280 := Tryz.func134.trans (congrArg some (by kernel_rfl))
  f281 := Tryz.func135.trans (congrArg some (by kernel_rfl))
  f282 := Tryz.func136.trans (congrArg some (by kernel_rfl))
  f283 := Tryz.func124.trans (congrArg some (by kernel_rfl))
  f284 := Tryz.func125.trans (congrArg some (by kernel_rfl))
  f285 := Tryz.func126.trans (congrArg some (by kernel_rfl))
  f286 := Tryz.func127.trans (congrArg some (by kernel_rfl))
  f287 := Tryz.func143.trans (congrArg some (by kernel_rfl))
  f316 := Tryz.func144.trans (congrArg some (by kernel_rfl))
  f317 := Tryz.func138.trans (congrArg some (by kernel_rfl))
  f318 := Tryz.func140.trans (congrArg some (by kernel_rfl))
  f319 := Tryz.func141.trans (congrArg some (by kernel_rfl))
  f320 := Tryz.func142.trans (congrArg some (by kernel_rfl))
  f321 := Tryz.func148.trans (congrArg some (by kernel_rfl))
  f322 := Tryz.func149.trans (congrArg some (by kernel_rfl))
  f337 := Tryz.func146.trans (congrArg some (by kernel_rfl))
  f338 := Tryz.func147.trans (congrArg some (by kernel_rfl))
  t0 := Tryz.underlying0
  a0 := Tryz.isAgg0
  z0 := Tryz.sizeOf0
  v0 := Tryz.zeroValue0
  t2 := Tryz.underlying2
  a2 := Tryz.isAgg2
  z2 := Tryz.sizeOf2
  v2 := Tryz.zeroValue2
  t3 := Tryz.underlying3
  a3 := Tryz.isAgg3
  z3 := Tryz.sizeOf3
  v3 := Tryz.zeroValue3
  t4 := Tryz.underlying4
  a4 := Tryz.isAgg4
  z4 := Tryz.sizeOf4
  v4 := Tryz.zeroValue4
  t5 := Tryz.underlying5
  a5 := Tryz.isAgg5
  z5 := Tryz.sizeOf5
  v5 := Tryz.zeroValue5
  t9 := Tryz.underlying9
  a9 := Tryz.isAgg9
  z9 := Tryz.sizeOf9
  v9 := Tryz.zeroValue9
  t20 := Tryz.underlying20
  a20 := Tryz.isAgg20
  z20 := Tryz.sizeOf20
  v20 := Tryz.zeroValue20
  t21 := Tryz.underlying21
  a21 := Tryz.isAgg21
  z21 := Tryz.sizeOf21
  v21 := Tryz.zeroValue21
  t37 := Tryz.underlying126
  a37 := Tryz.isAgg126
  z37 := Tryz.sizeOf126
  v37 := Tryz.zeroValue126
  t46 := Tryz.underlying148
  a46 := Tryz.isAgg148
  z46 := Tryz.sizeOf148
  v46 := Tryz.zeroValue148
  t51 := Tryz.underlying184
  a51 := Tryz.isAgg184
  z51 := Tryz.sizeOf184
  v51 := Tryz.zeroValue184
  t53 := Tryz.underlying22
  a53 := Tryz.isAgg22
  z53 := Tryz.sizeOf22
  v53 := Tryz.zeroValue22
  t75 := Tryz.underlying166
  a75 := Tryz.isAgg166
  z75 := Tryz.sizeOf166
  v75 := Tryz.zeroValue166
  t76 := Tryz.underlying167
  a76 := Tryz.isAgg167
  z76 := Tryz.sizeOf167
  v76 := Tryz.zeroValue167
  t85 := Tryz.underlying188
  a85 := Tryz.isAgg188
  z85 := Tryz.sizeOf188
  v85 := Tryz.zeroValue188
  t127 := Tryz.underlying173
  a127 := Tryz.isAgg173
  z127 := Tryz.sizeOf173
  v127 := Tryz.zeroValue173
  t143 := Tryz.underlying206
  a143 := Tryz.isAgg206
  z143 := Tryz.sizeOf206
  v143 := Tryz.zeroValue206
  t145 := Tryz.underlying208
  a145 := Tryz.isAgg208
  z145 := Tryz.sizeOf208
  v145 := Tryz.zeroValue208
  t167 := Tryz.underlying187
  a167 := Tryz.isAgg187
  z167 := Tryz.sizeOf187
  v167 := Tryz.zeroValue187
  t168 := Tryz.underlying190
  a168 := Tryz.isAgg190
  z168 := Tryz.sizeOf190
  v168 := Tryz.zeroValue190
  t171 := Tryz.underlying176
  a171 := Tryz.isAgg176
  z171 := Tryz.sizeOf176
  v171 := Tryz.zeroValue176
  t173 := Tryz.underlying179
  a173 := Tryz.isAgg179
  z173 := Tryz.sizeOf179
  v173 := Tryz.zeroValue179
  t175 := Tryz.underlying198
  a175 := Tryz.isAgg198
  z175 := Tryz.sizeOf198
  v175 := Tryz.zeroValue198
  t210 := Tryz.underlying202
  a210 := Tryz.isAgg202
  z210 := Tryz.sizeOf202
  v210 := Tryz.zeroValue202
  t212 := Tryz.underlying195
  a212 := Tryz.isAgg195
  z212 := Tryz.sizeOf195
  v212 := Tryz.zeroValue195
  t213 := Tryz.underlying196
  a213 := Tryz.isAgg196
  z213 := Tryz.sizeOf196
  t232 := Tryz.underlying209
  a232 := Tryz.isAgg209
  z232 := Tryz.sizeOf209
  v232 := Tryz.zeroValue209
  t233 := Tryz.underlying210
  a233 := Tryz.isAgg210
  z233 := Tryz.sizeOf210
  v233 := Tryz.zeroValue210
  g15 := by kernel_rfl
  g16 := by kernel_rfl
  g17 := by kernel_rfl
  g18 := by kernel_rfl
  g19 := by kernel_rfl
  t80 := Tryz.underlying169
  a80 := Tryz.isAgg169
  z80 := Tryz.sizeOf169
  v80 := Tryz.zeroValue169
  i0 := by kernel_rfl
  i2 := by kernel_rfl
  i3 := by kernel_rfl
  i4 := by kernel_rfl
  i5 := by kernel_rfl
  i9 := by kernel_rfl
  i20 := by kernel_rfl
  i21 := by kernel_rfl
  i37 := by kernel_rfl
  i46 := by kernel_rfl
  i51 := by kernel_rfl
  i53 := by kernel_rfl
  i75 := by kernel_rfl
  i76 := by kernel_rfl
  i80 := by kernel_rfl
  i85 := by kernel_rfl
  i127 := by kernel_rfl
  i143 := by kernel_rfl
  i145 := by kernel_rfl
  i167 := by kernel_rfl
  i168 := by kernel_rfl
  i171 := by kernel_rfl
  i173 := by kernel_rfl
  i175 := by kernel_rfl
  i210 := by kernel_rfl
  i212 := by kernel_rfl
  i232 := by kernel_rfl
  i233 := by kernel_rfl
  m15 := by kernel_rfl
  m16 := by kernel_rfl
  m17 := by kernel_rfl
  m18 := by kernel_rfl
  m19 := by kernel_rfl
  c0 := by kernel_rfl
  c2 := by kernel_rfl
  c3 := by kernel_rfl
  c4 := by kernel_rfl
  c5 := by kernel_rfl
  c9 := by kernel_rfl
  c20 := by kernel_rfl
  c21 := by kernel_rfl
  c37 := by kernel_rfl
  c46 := by kernel_rfl
  c51 := by kernel_rfl
  c53 := by kernel_rfl
  c75 := by kernel_rfl
  c76 := by kernel_rfl
  c80 := by kernel_rfl
  c85 := by kernel_rfl
  c127 := by kernel_rfl
  c143 := by kernel_rfl
  c145 := by kernel_rfl
  c167 := by kernel_rfl
  c168 := by kernel_rfl
  c171 := by kernel_rfl
  c173 := by kernel_rfl
  c175 := by kernel_rfl
  c210 := by kernel_rfl
  c212 := by kernel_rfl
  c213 := by kernel_rfl
  c232 := by kernel_rfl
  c233 := by kernel_rfl }
def Tryz.lays219_ren : Go.Shelf.Ren := ⟨fun | 219 => 110 | 217 => 117 | 225 => 118 | 224 => 119 | 267 => 120 | 266 => 130 | 314 => 131 | n => n, fun | 9 => 9 | 3 => 3 | 4 => 4 | 5 => 5 | 46 => 148 | 146 => 185 | 51 => 184 | n => n, fun | 1 => 1 | n => n⟩
theorem Tryz.lays219 : Go.Proofs.Lays.n219 Tryz.prog Tryz.lays219_ren := {
  mixed := by kernel_rfl
  f217 := Tryz.func117.trans (congrArg some (by kernel_rfl))
  f219 := Tryz.func110.trans (congrArg some (by kernel_rfl))
  f224 := Tryz.func119.trans (congrArg some (by kernel_rfl))
  f225 := Tryz.func118.trans (congrArg some (by kernel_rfl))
  f266 := Tryz.func130.trans (congrArg some (by kernel_rfl))
  f267 := Tryz.func120.trans (congrArg some (by kernel_rfl))
  f314 := Tryz.func131.trans (congrArg some (by kernel_rfl))
  t3 := Tryz.underlying3
  a3 := Tryz.isAgg3
  z3 := Tryz.sizeOf3
  v3 := Tryz.zeroValue3
  t4 := Tryz.underlying4
  a4 := Tryz.isAgg4
  z4 := Tryz.sizeOf4
  v4 := Tryz.zeroValue4
  t5 := Tryz.underlying5
  a5 := Tryz.isAgg5
  z5 := Tryz.sizeOf5
  v5 := Tryz.zeroValue5
  t9 := Tryz.underlying9
  a9 := Tryz.isAgg9
  z9 := Tryz.sizeOf9
  v9 := Tryz.zeroValue9
  t46 := Tryz.underlying148
  a46 := Tryz.isAgg148
  z46 := Tryz.sizeOf148
  v46 := Tryz.zeroValue148
  t51 := Tryz.underlying184
  a51 := Tryz.isAgg184
  z51 := Tryz.sizeOf184
  v51 := Tryz.zeroValue184
  t146 := Tryz.underlying185
  a146 := Tryz.isAgg185
  z146 := Tryz.sizeOf185
  v146 := Tryz.zeroValue185
  g1 := by kernel_rfl }
def Tryz.laysM176_ren : Go.Shelf.Ren := ⟨fun | 176 => 99 | 249 => 105 | 288 => 114 | 283 => 124 | 284 => 125 | 285 => 126 | 286 => 127 | 129 => 139 | 317 => 138 | 318 => 140 | 319 => 141 | 320 => 142 | 337 => 146 | 338 => 147 | n => n, fun | 37 => 126 | 2 => 2 | 3 => 3 | 53 => 22 | 4 => 4 | 9 => 9 | 171 => 176 | 0 => 0 | 173 => 179 | 212 => 195 | 51 => 184 | 5 => 5 | 20 => 20 | 213 => 196 | 46 => 148 | 232 => 209 | 233 => 210 | n => n, fun | 17 => 2 | 18 => 5 | 19 => 6 | n => n⟩
theorem Tryz.laysM176 : Go.Proofs.LaysM.n176 Tryz.prog Tryz.laysM176_ren := {
  mixed := by kernel_rfl
  f129 := Tryz.func139.trans (congrArg some (by kernel_rfl))
  f176 := Tryz.func99.trans (congrArg some (by kernel_rfl))
  f249 := Tryz.func105.trans (congrArg some (by kernel_rfl))
  f283 := Tryz.func124.trans (congrArg some (by kernel_rfl))
  f284 := Tryz.func125.trans (congrArg some (by kernel_rfl))
  f285 := Tryz.func126.trans (congrArg some (by kernel_rfl))
  f286 := Tryz.func127.trans (congrArg some (by kernel_rfl))
  f288 := Tryz.func114.trans (congrArg some (by kernel_rfl))
  f317 := Tryz.func138.trans (congrArg some (by kernel_rfl))
  f318 := Tryz.func140.trans (congrArg some (by kernel_rfl))
  f319 := Tryz.func141.trans (congrArg some (by kernel_rfl))
  f320 := Tryz.func142.trans (congrArg some (by kernel_rfl))
  f337 := Tryz.func146.trans (congrArg some (by kernel_rfl))
  f338 := Tryz.func147.trans (congrArg some (by kernel_rfl))
  t0 := Tryz.underlying0
  a0 := Tryz.isAgg0
  z0 := Tryz.sizeOf0
  v0 := Tryz.zeroValue0
  t2 := Tryz.underlying2
  a2 := Tryz.isAgg2
  z2 := Tryz.sizeOf2
  v2 := Tryz.zeroValue2
  t3 := Tryz.underlying3
  a3 := Tryz.isAgg3
  z3 := Tryz.sizeOf3
  v3 := Tryz.zeroValue3
  t4 := Tryz.underlying4
  a4 := Tryz.isAgg4
  z4 := Tryz.sizeOf4
  v4 := Tryz.zeroValue4
  t5 := Tryz.underlying5
  a5 := Tryz.isAgg5
  z5 := Tryz.sizeOf5
  v5 := Tryz.zeroValue5
  t9 := Tryz.underlying9
  a9 := Tryz.isAgg9
  z9 := Tryz.sizeOf9
  v9 := Tryz.zeroValue9
  t20 := Tryz.underlying20
  a20 := Tryz.isAgg20
  z20 := Tryz.sizeOf20
  v20 := Tryz.zeroValue20
  t37 := Tryz.underlying126
  a37 := Tryz.isAgg126
  z37 := Tryz.sizeOf126
  v37 := Tryz.zeroValue126
  t46 := Tryz.underlying148
  a46 := Tryz.isAgg148
  z46 := Tryz.sizeOf148
  v46 := Tryz.zeroValue148
  t51 := Tryz.underlying184
  a51 := Tryz.isAgg184
  z51 := Tryz.sizeOf184
  v51 := Tryz.zeroValue184
  t53 := Tryz.underlying22
  a53 := Tryz.isAgg22
  z53 := Tryz.sizeOf22
  v53 := Tryz.zeroValue22
  t171 := Tryz.underlying176
  a171 := Tryz.isAgg176
  z171 := Tryz.sizeOf176
  v171 := Tryz.zeroValue176
  t173 := Tryz.underlying179
  a173 := Tryz.isAgg179
  z173 := Tryz.sizeOf179
  v173 := Tryz.zeroValue179
  t212 := Tryz.underlying195
  a212 := Tryz.isAgg195
  z212 := Tryz.sizeOf195
  v212 := Tryz.zeroValue195
  t213 := Tryz.underlying196
  a213 := Tryz.isAgg196
  z213 := Tryz.sizeOf196
  t232 := Tryz.underlying209
  a232 := Tryz.isAgg209
  z232 := Tryz.sizeOf209
  v232 := Tryz.zeroValue209
  t233 := Tryz.underlying210
  a233 := Tryz.isAgg210
  z233 := Tryz.sizeOf210
  v233 := Tryz.zeroValue210
  g17 := by kernel_rfl
  g18 := by kernel_rfl
  g19 := by kernel_rfl
  i0 := by kernel_rfl
  i2 := by kernel_rfl
  i3 := by kernel_rfl
  i4 := by kernel_rfl
  i5 := by kernel_rfl
  i9 := by kernel_rfl
  i20 := by kernel_rfl
  i37 := by kernel_rfl
  i46 := by kernel_rfl
  i51 := by kernel_rfl
  i53 := by kernel_rfl
  i171 := by kernel_rfl
  i173 := by kernel_rfl
  i212 := by kernel_rfl
  i232 := by kernel_rfl
  i233 := by kernel_rfl
  m17 := by kernel_rfl
  m18 := by kernel_rfl
  m19 := by kernel_rfl }
open Go.RowKit Go.Sort Go.Lib in
theorem Tryz.strconv_Itoa (n : Int) (h0 : -9223372036854775808 ≤ n) (h1 : n ≤ 9223372036854775807) (w : World) (htab : Lib.TabIs Tryz.prog w "internal/strconv.uint64pow10" .u64 Lib.pow10Tab) :
    Calls Tryz.prog 113 #[.int .i64 n] w fun e w' => e = .returned (.string ⟨(Lib.itoa n).toArray⟩) ∧ ∃ k os, w' = grow (w.drewN k) os := Any.strconv_Itoa Tryz.laysM171 n h0 h1 w htab
open Go.RowKit in
theorem Tryz.strconv_Atoi_ok (s : ByteArray) (hmax : s.size ≤ 9223372036854775806) (v : Int) (h : Lib.atoiAll s.data.toList = .ok v) (w : World) :
    Calls Tryz.prog 111 #[.string s] w fun e w' => e = .returned (.tuple #[.int .i64 v, .nilIface]) ∧ (w' = w ∨ ∃ t, w' = Lib.bytesWorld w 5 t) := Any.strconv_Atoi_ok Tryz.laysC172 s hmax v h w
open Go.RowKit in
theorem Tryz.strconv_Atoi_syntax_var (s : ByteArray) (hlim : s.size ≤ 281474976710656) (h : Lib.atoiAll s.data.toList = .«syntax») (tp : TypeId) (p : Value) (w : World) (hvar : w.var? Tryz.prog "strconv.ErrSyntax" = some #[.iface tp p]) :
    Calls Tryz.prog 111 #[.string s] w fun e w' => ∃ N, e = .returned (.tuple #[.int .i64 0, .iface 190 (.pointer (some ⟨N, 0, none⟩))]) ∧ w.heap.size ≤ N ∧ w'.heap[N]? = some (.cells #[.string ⟨#[65, 116, 111, 105]⟩, .string s, .iface tp p] 202 (0, 0)) ∧ Below w.heap.size w w' := Any.strconv_Atoi_syntax_var Tryz.laysC172 s hlim h tp p w hvar
open Go.RowKit in
theorem Tryz.strconv_Atoi_range_var (s : ByteArray) (hlim : s.size ≤ 281474976710656) (h : Lib.atoiAll s.data.toList = .range) (tp : TypeId) (p : Value) (w : World) (hvar : w.var? Tryz.prog "strconv.ErrRange" = some #[.iface tp p]) :
    Calls Tryz.prog 111 #[.string s] w fun e w' => ∃ N, e = .returned (.tuple #[.int .i64 (Lib.atoiSat s.data.toList), .iface 190 (.pointer (some ⟨N, 0, none⟩))]) ∧ w.heap.size ≤ N ∧ w'.heap[N]? = some (.cells #[.string ⟨#[65, 116, 111, 105]⟩, .string s, .iface tp p] 202 (0, 0)) ∧ Below w.heap.size w w' := Any.strconv_Atoi_range_var Tryz.laysC172 s hlim h tp p w hvar
open Go.RowKit Go.Lib in
theorem Tryz.stringslite_Index_one (s : ByteArray) (c : UInt8) (w : World) :
    Calls Tryz.prog 110 #[.string s, .string ⟨#[c]⟩] w fun e w' => e = .returned (.int .i64 (Lib.indexByte s.data.toList c)) ∧ w' = w := Any.stringslite_Index_one Tryz.lays219 s c w
open Go.RowKit Go.Sort Go.Lib in
theorem Tryz.strconv_AppendInt_10 (B n : Nat) (i : Int) (h0 : -9223372036854775808 ≤ i) (h1 : i ≤ 9223372036854775807) (sv : Value) (xs : List Value) (w : World) (hown : w.ownsRow B 5 1 sv n xs) (hBw : B ≤ w.heap.size) (hlim : n + 21 ≤ 140737488355328) (htab : Lib.TabBelow Tryz.prog B w "internal/strconv.uint64pow10" .u64 Lib.pow10Tab) :
    Calls Tryz.prog 99 #[sv, .int .i64 i, .int .i64 10] w fun e w' => ∃ v', e = .returned v' ∧ w'.ownsRow B 5 1 v' (n + (Lib.itoa i).length) (xs ++ Lib.byteCells (Lib.itoa i)) ∧ Below B w w' ∧ Lib.OthersKept 5 none w w' := Any.strconv_AppendInt_10 Tryz.laysM176 B n i h0 h1 sv xs w hown hBw hlim htab
end Go.Proofs.YtbfllifgmlkndaaGreatDoor
