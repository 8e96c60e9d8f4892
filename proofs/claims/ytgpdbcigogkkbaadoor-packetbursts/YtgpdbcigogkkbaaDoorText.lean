/- What of a key counts, how ranges are written, and which texts are read: plain mathematics on lists of bytes; nothing of the program. -/
import Derived.Test.YtgpdbcigogkkbaaDoorSets
import Derived.Lib.ItoaNum
import Derived.Lib.ItoaMem
import Derived.Lib.AtoiAll
import Derived.Lib.CutLaws
namespace Go.Proofs.YtgpdbcigogkkbaaDoor
namespace Slot

/-- around the first c -/
def cut (c : UInt8) : List UInt8 → List UInt8 × List UInt8 × Bool
  | [] => ([], [], false)
  | b :: l => if b = c then ([], l, true) else (b :: (cut c l).1, (cut c l).2.1, (cut c l).2.2)
theorem cut_hit {c : UInt8} : ∀ {p r : List UInt8}, c ∉ p → cut c (p ++ c :: r) = (p, r, true)
  | [], r, _ => by simp [cut]
  | b :: p, r, h => by
    have hb : ¬ b = c := fun e => h (by simp [e])
    have := cut_hit (c := c) (p := p) (r := r) (fun m => h (List.mem_cons_of_mem _ m))
    simp [cut, hb, this]
theorem cut_miss {c : UInt8} : ∀ {l : List UInt8}, c ∉ l → cut c l = (l, [], false)
  | [], _ => rfl
  | b :: l, h => by
    have hb : ¬ b = c := fun e => h (by simp [e])
    have := cut_miss (c := c) (l := l) (fun m => h (List.mem_cons_of_mem _ m))
    simp [cut, hb, this]
theorem cut_cases (c : UInt8) : ∀ l : List UInt8, (∃ p r, l = p ++ c :: r ∧ c ∉ p) ∨ c ∉ l
  | [] => Or.inr (by simp)
  | b :: l => by
    by_cases hb : b = c
    · subst hb; exact Or.inl ⟨[], l, rfl, by simp⟩
    · rcases cut_cases c l with ⟨p, r, rfl, h⟩ | h
      · exact Or.inl ⟨b :: p, r, rfl, by simp [h, Ne.symm hb]⟩
      · exact Or.inr (by simp [h, Ne.symm hb])
theorem cut_lib (c : UInt8) : ∀ l : List UInt8, Lib.cut l [c] = cut c l := fun l => by
  have key : ∀ l : List UInt8, (c ∉ l → Lib.index l [c] = -1) ∧ (∀ p r, l = p ++ c :: r → c ∉ p → Lib.index l [c] = p.length) := by
    intro l
    induction l with
    | nil => exact ⟨fun _ => rfl, fun p r h _ => by simp at h⟩
    | cons b l ih =>
      constructor
      · intro h
        have hb : ¬ c = b := fun e => h (by simp [e])
        have := ih.1 (fun m => h (List.mem_cons_of_mem _ m))
        simp [Lib.index, List.isPrefixOf, hb, this]
      · intro p r h hp
        cases p with
        | nil =>
          simp at h
          simp [Lib.index, List.isPrefixOf, h.1]
        | cons x p =>
          simp at h
          obtain ⟨rfl, h2⟩ := h
          have hb : ¬ c = b := fun e => hp (by simp [e])
          have := ih.2 p r h2 (fun m => hp (List.mem_cons_of_mem _ m))
          have ne : ¬ ((p.length : Int) = -1) := by omega
          simp [Lib.index, List.isPrefixOf, hb, this, ne]
  rcases cut_cases c l with ⟨p, r, rfl, h⟩ | h
  · rw [cut_hit h]
    unfold Lib.cut
    rw [(key _).2 p r rfl h, if_pos (by omega)]
    simp
  · rw [cut_miss h]
    unfold Lib.cut
    rw [(key _).1 h, if_neg (by omega)]

/-- what of a key counts -/
def tag (key : List UInt8) : List UInt8 :=
  if (cut 123 key).2.2 = false then key
  else if (cut 125 (cut 123 key).2.1).2.2 = false ∨ (cut 125 (cut 123 key).2.1).1 = [] then key
  else (cut 125 (cut 123 key).2.1).1
theorem tag_plain {key : List UInt8} (h : (123 : UInt8) ∉ key) : tag key = key := by
  unfold tag; rw [cut_miss h]; simp
theorem tag_open {a b : List UInt8} (h : (123 : UInt8) ∉ a) (h2 : (125 : UInt8) ∉ b) : tag (a ++ 123 :: b) = a ++ 123 :: b := by
  unfold tag; rw [cut_hit h]; simp [cut_miss h2]
theorem tag_empty {a r : List UInt8} (h : (123 : UInt8) ∉ a) : tag (a ++ 123 :: 125 :: r) = a ++ 123 :: 125 :: r := by
  unfold tag; rw [cut_hit h]; simp [cut]
theorem tag_in {a t r : List UInt8} (h : (123 : UInt8) ∉ a) (h2 : (125 : UInt8) ∉ t) (h3 : t ≠ []) : tag (a ++ 123 :: (t ++ 125 :: r)) = t := by
  unfold tag; rw [cut_hit h]; simp [cut_hit h2, h3]
theorem tag_cases (key : List UInt8) : tag key = key ∨ ((125 : UInt8) ∉ tag key) := by
  rcases cut_cases 123 key with ⟨a, b, rfl, h⟩ | h
  · rcases cut_cases 125 b with ⟨t, r, rfl, h2⟩ | h2
    · by_cases h3 : t = []
      · subst h3; exact Or.inl (tag_empty h)
      · right; rw [tag_in h h2 h3]; exact h2
    · exact Or.inl (tag_open h h2)
  · exact Or.inl (tag_plain h)
theorem tag_noclose {key : List UInt8} (h : (125 : UInt8) ∉ key) : tag key = key := by
  rcases cut_cases 123 key with ⟨a, b, rfl, h1⟩ | h1
  · exact tag_open h1 fun m => h (by simp [m])
  · exact tag_plain h1
theorem tag_tag (key : List UInt8) : tag (tag key) = tag key := by
  rcases tag_cases key with h | h
  · rw [h, h]
  · exact tag_noclose h
theorem tag_length (key : List UInt8) : (tag key).length ≤ key.length := by
  rcases cut_cases 123 key with ⟨a, b, rfl, h⟩ | h
  · rcases cut_cases 125 b with ⟨t, r, rfl, h2⟩ | h2
    · by_cases h3 : t = []
      · subst h3; rw [List.nil_append, tag_empty h]; exact Nat.le_refl _
      · rw [tag_in h h2 h3]; simp; omega
    · rw [tag_open h h2]; exact Nat.le_refl _
  · rw [tag_plain h]; exact Nat.le_refl _

/-- a number's digits -/
abbrev dec (n : Nat) : List UInt8 := Lib.decDigits n
theorem dec_digit (n : Nat) : ∀ b ∈ dec n, 48 ≤ b.toNat ∧ b.toNat ≤ 57 := by
  induction n using Nat.strongRecOn with
  | ind n ih =>
    intro b hb
    unfold dec at hb
    rw [Lib.decDigits] at hb
    split at hb
    · have e := List.mem_singleton.1 hb
      rw [e, UInt8.toNat_ofNat']
      omega
    · rcases List.mem_append.1 hb with hb | hb
      · exact ih (n / 10) (by omega) b hb
      · have e := List.mem_singleton.1 hb
        rw [e, UInt8.toNat_ofNat']
        omega
theorem dec_ne (n : Nat) : dec n ≠ [] := by
  unfold dec; rw [Lib.decDigits]; split <;> simp
theorem dec_not {n : Nat} {c : UInt8} (h : c.toNat < 48) : c ∉ dec n := fun m => by
  have := dec_digit n c m
  omega
theorem parse_dec_aux (l : List UInt8) : ∀ acc d, (∀ b ∈ l, 48 ≤ b.toNat ∧ b.toNat ≤ 57) → 48 ≤ d.toNat → d.toNat ≤ 57 →
    Lib.parseUint10 acc (l ++ [d]) = (match Lib.parseUint10 acc l with | .ok u => if 1844674407370955162 ≤ u then .range else if 18446744073709551616 ≤ u * 10 + (d.toNat - 48) then .range else .ok (u * 10 + (d.toNat - 48)) | e => e) := by
  induction l with
  | nil => intro acc d _ h1 h2; simp [Lib.parseUint10, h1, h2]
  | cons c l ih =>
    intro acc d h h1 h2
    have hc := h c (by simp)
    simp only [List.cons_append, Lib.parseUint10, if_pos hc]
    split
    · rfl
    · split
      · rfl
      · exact ih _ d (fun b hb => h b (by simp [hb])) h1 h2
theorem parse_dec (n : Nat) (hn : n < 1000000) : Lib.parseUint10 0 (dec n) = .ok n := by
  induction n using Nat.strongRecOn with
  | ind n ih =>
    unfold dec
    rw [Lib.decDigits]
    split
    · have e : (UInt8.ofNat (48 + n)).toNat = 48 + n := by rw [UInt8.toNat_ofNat']; omega
      simp only [Lib.parseUint10, e]
      rw [if_pos (by omega), if_neg (by omega), if_neg (by omega)]
      congr 1
      omega
    · have e : (UInt8.ofNat (48 + n % 10)).toNat = 48 + n % 10 := by rw [UInt8.toNat_ofNat']; omega
      rw [parse_dec_aux _ 0 _ (dec_digit _) (by omega) (by omega), ih (n / 10) (by omega) (by omega)]
      simp only [e]
      rw [if_neg (by omega), if_neg (by omega)]
      congr 1
      omega
theorem atoi_dec (n : Nat) (hn : n < 1000000) : Lib.atoiAll (dec n) = .ok (n : Int) := by
  have hp := parse_dec n hn
  have hd := dec_digit n
  have hne := dec_ne n
  generalize dec n = l at hp hd hne
  cases l with
  | nil => exact absurd rfl hne
  | cons c r =>
    have hc := hd c (by simp)
    have h43 : ¬ (c.toNat = 43 ∨ c.toNat = 45) := by omega
    have h45 : ¬ c.toNat = 45 := by omega
    have hm : Lib.parseMag (c :: r) = .ok n := by unfold Lib.parseMag; rw [if_neg hne, hp]
    unfold Lib.atoiAll
    simp only [if_neg h43, hm]
    rw [if_neg (by omega), if_neg (by omega), if_neg h45]

/-- a slot's digits -/
def readNum (t : List UInt8) : Option Nat :=
  match Lib.atoiAll t with
  | .ok v => if 0 ≤ v ∧ v < 16384 ∧ Lib.itoa v = t then some v.toNat else none
  | _ => none
theorem readNum_iff (t : List UInt8) (n : Nat) : readNum t = some n ↔ n < top ∧ t = dec n := by
  constructor
  · intro h
    unfold readNum at h
    split at h
    · rename_i v hv
      split at h
      · rename_i hh
        injection h with h
        have e : v = (n : Int) := by omega
        subst e
        rw [Lib.itoa_nonneg] at hh
        exact ⟨by unfold top; omega, hh.2.2.symm⟩
      · cases h
    · cases h
  · rintro ⟨h, rfl⟩
    unfold readNum
    unfold top at h
    rw [atoi_dec n (by omega)]
    simp only [Lib.itoa_nonneg]
    rw [if_pos ⟨by omega, by omega, trivial⟩]
    rfl
theorem dec_inj {a b : Nat} (ha : a < top) (h : dec a = dec b) (hb : b < top) : a = b := by
  have h1 := (readNum_iff (dec a) a).2 ⟨ha, rfl⟩
  have h2 := (readNum_iff (dec a) b).2 ⟨hb, h⟩
  rw [h1] at h2
  exact Option.some.inj h2

/-- how a range is written -/
def piece (p : Nat × Nat) : List UInt8 := dec p.1 ++ if p.1 < p.2 then 45 :: dec p.2 else []
/-- how a range is read -/
def readRange (t : List UInt8) : Option (Nat × Nat) :=
  match readNum (cut 45 t).1 with
  | none => none
  | some f => if (cut 45 t).2.2 = false then some (f, f) else
    match readNum (cut 45 t).2.1 with
    | none => none
    | some u => if f < u then some (f, u) else none
theorem piece_not (p : Nat × Nat) : (32 : UInt8) ∉ piece p := by
  unfold piece
  intro h
  rcases List.mem_append.1 h with h | h
  · exact dec_not (by decide) h
  · split at h
    · rcases List.mem_cons.1 h with h | h
      · exact absurd h (by decide)
      · exact dec_not (by decide) h
    · cases h
theorem piece_ne (p : Nat × Nat) : piece p ≠ [] := by
  unfold piece
  intro h
  exact dec_ne _ (List.append_eq_nil_iff.1 h).1
theorem readRange_iff (t : List UInt8) (f u : Nat) : readRange t = some (f, u) ↔ f ≤ u ∧ u < top ∧ t = piece (f, u) := by
  constructor
  · intro h
    unfold readRange at h
    split at h
    · cases h
    · rename_i a ha
      rw [readNum_iff] at ha
      rcases cut_cases 45 t with ⟨p, r, rfl, hp⟩ | hp
      · rw [cut_hit hp] at h ha
        simp only [Bool.true_eq_false, if_false] at h
        split at h
        · cases h
        · rename_i b hb
          rw [readNum_iff] at hb
          split at h
          · injection h with h
            injection h with h1 h2
            subst h1 h2
            rename_i hlt
            refine ⟨by omega, hb.1, ?_⟩
            simp only [piece, if_pos hlt]
            rw [show p = dec a from ha.2, show r = dec b from hb.2]
          · cases h
      · rw [cut_miss hp] at h ha
        simp only [if_true] at h
        injection h with h
        injection h with h1 h2
        subst h1 h2
        exact ⟨Nat.le_refl _, ha.1, by simp only [piece, Nat.lt_irrefl, if_false, List.append_nil]; exact ha.2⟩
  · rintro ⟨h1, h2, rfl⟩
    unfold readRange piece
    have hf : (45 : UInt8) ∉ dec f := dec_not (by decide)
    have hr := (readNum_iff (dec f) f).2 ⟨by omega, rfl⟩
    have hu := (readNum_iff (dec u) u).2 ⟨h2, rfl⟩
    by_cases hlt : f < u
    · simp only [if_pos hlt]
      rw [cut_hit hf]
      simp only [hr, hu, hlt, if_true, Bool.true_eq_false, if_false]
    · have e : f = u := by omega
      subst e
      simp only [Nat.lt_irrefl, if_false, List.append_nil]
      rw [cut_miss hf]
      simp only [hr, if_true]

/-- how ranges are written -/
def print : List (Nat × Nat) → List UInt8
  | [] => []
  | [p] => piece p
  | p :: q :: l => piece p ++ 32 :: print (q :: l)
theorem print_snoc (l : List (Nat × Nat)) (p : Nat × Nat) : print (l ++ [p]) = print l ++ (if l = [] then [] else [32]) ++ piece p := by
  induction l with
  | nil => simp [print]
  | cons q l ih =>
    cases l with
    | nil => simp [print]
    | cons r l =>
      simp only [List.cons_append, print, ih] at ih ⊢
      simp
theorem print_cons (p : Nat × Nat) (l : List (Nat × Nat)) (h : l ≠ []) : print (p :: l) = piece p ++ 32 :: print l := by
  cases l with
  | nil => exact absurd rfl h
  | cons q l => rfl
/-- how ranges are read -/
def parse : Nat → List UInt8 → Nat → Option (List (Nat × Nat))
  | 0, _, _ => none
  | fuel + 1, s, least =>
    match readRange (cut 32 s).1 with
    | none => none
    | some p => if p.1 < least then none else if (cut 32 s).2.2 = true then (parse fuel (cut 32 s).2.1 (p.2 + 2)).map (p :: ·) else some [p]
/-- rising, and none touches the next -/
def Chain : Nat → List (Nat × Nat) → Prop
  | _, [] => True
  | m, p :: l => m ≤ p.1 ∧ p.1 ≤ p.2 ∧ p.2 < top ∧ Chain (p.2 + 2) l
theorem parse_sound : ∀ (fuel : Nat) (s : List UInt8) (m : Nat) (l : List (Nat × Nat)), parse fuel s m = some l → s = print l ∧ l ≠ [] ∧ Chain m l
  | 0, _, _, _, h => by cases h
  | fuel + 1, s, m, l, h => by
    unfold parse at h
    split at h
    · cases h
    · rename_i p hp
      obtain ⟨f, u⟩ := p
      rw [readRange_iff] at hp
      split at h
      · cases h
      · rename_i hm
        rcases cut_cases 32 s with ⟨a, r, rfl, ha⟩ | ha
        · rw [cut_hit ha] at h hp
          simp only [if_true, Option.map_eq_some_iff] at h
          obtain ⟨k, hk, rfl⟩ := h
          obtain ⟨h1, h2, h3⟩ := parse_sound fuel r _ k hk
          refine ⟨?_, by simp, ?_⟩
          · rw [print_cons _ _ h2, ← h1, ← hp.2.2]
          · exact ⟨by simpa using hm, hp.1, hp.2.1, h3⟩
        · rw [cut_miss ha] at h hp
          simp only [Bool.false_eq_true, if_false] at h
          injection h with h
          subst h
          exact ⟨hp.2.2, by simp, by simpa using hm, hp.1, hp.2.1, trivial⟩
theorem parse_print : ∀ (l : List (Nat × Nat)) (fuel m : Nat), l ≠ [] → l.length ≤ fuel → Chain m l → parse fuel (print l) m = some l
  | [], _, _, h, _, _ => absurd rfl h
  | p :: l, 0, _, _, h, _ => by simp at h
  | p :: l, fuel + 1, m, _, hf, ⟨h1, h2, h3, h4⟩ => by
    have hr := (readRange_iff (piece p) p.1 p.2).2 ⟨h2, h3, rfl⟩
    by_cases e : l = []
    · subst e
      unfold parse
      rw [show print [p] = piece p from rfl, cut_miss (piece_not p)]
      simp only [hr, Bool.false_eq_true, if_false]
      rw [if_neg (by simpa using h1)]
    · have ih := parse_print l fuel _ e (by simpa using hf) h4
      unfold parse
      rw [print_cons _ _ e, cut_hit (piece_not p)]
      simp only [hr, if_true]
      rw [if_neg (by simpa using h1), ih]
      rfl
theorem parse_step (fuel : Nat) (s : List UInt8) (m : Nat) : parse (fuel + 1) s m = (match readRange (cut 32 s).1 with
    | none => none
    | some p => if p.1 < m then none else if (cut 32 s).2.2 = true then (parse fuel (cut 32 s).2.1 (p.2 + 2)).map (p :: ·) else some [p]) := rfl
theorem cut_less {c : UInt8} {l : List UInt8} (h : (cut c l).2.2 = true) : (cut c l).2.1.length < l.length := by
  rcases cut_cases c l with ⟨p, r, rfl, hp⟩ | hp
  · rw [cut_hit hp]; simp; omega
  · rw [cut_miss hp] at h; cases h
theorem readRange_lt {t : List UInt8} {p : Nat × Nat} (h : readRange t = some p) : p.1 ≤ p.2 ∧ p.2 < top := by
  have := (readRange_iff t p.1 p.2).1 h
  exact ⟨this.1, this.2.1⟩
theorem print_ne : ∀ {l : List (Nat × Nat)}, l ≠ [] → print l ≠ []
  | [], h => absurd rfl h
  | [p], _ => piece_ne p
  | p :: q :: l, _ => by simp [print]
theorem print_length : ∀ l : List (Nat × Nat), l.length ≤ (print l).length
  | [] => Nat.le_refl _
  | [p] => by
    have := List.length_pos_iff.2 (piece_ne p)
    exact this
  | p :: q :: l => by
    have := print_length (q :: l)
    simp only [print, List.length_append, List.length_cons] at this ⊢
    omega
/-- the ranges that a text says -/
def parseAll (s : List UInt8) : Option (List (Nat × Nat)) := if s = [] then some [] else parse (s.length + 1) s 0
theorem parseAll_sound {s : List UInt8} {l : List (Nat × Nat)} (h : parseAll s = some l) : s = print l ∧ Chain 0 l := by
  unfold parseAll at h
  split at h
  · injection h with h; subst h; rename_i e; exact ⟨e, trivial⟩
  · obtain ⟨h1, _, h3⟩ := parse_sound _ _ _ _ h
    exact ⟨h1, h3⟩
theorem parseAll_print {l : List (Nat × Nat)} (h : Chain 0 l) : parseAll (print l) = some l := by
  unfold parseAll
  by_cases e : l = []
  · subst e; rfl
  · rw [if_neg (print_ne e)]
    exact parse_print l _ _ e (Nat.le_succ_of_le (print_length l)) h
theorem Chain.ofList : ∀ {l : List (Nat × Nat)} {m : Nat}, Chain m l → ∀ n, n < m → Slot.ofList l n = false
  | [], _, _, _, _ => rfl
  | (f, t) :: l, m, ⟨h1, h2, h3, h4⟩, n, hn => by
    have := Chain.ofList h4 n (by simp only at h1 h2 ⊢; omega)
    simp only [Slot.ofList, List.any_cons] at this ⊢
    rw [this]
    simp; omega
theorem Chain.runs : ∀ {l : List (Nat × Nat)} {m k : Nat} {S : Nat → Bool}, Chain m l → k ≤ m → (∀ n, k ≤ n → n < top → S n = Slot.ofList l n) → Runs S k l
  | [], _, _, _, _, _, hS => fun n h1 h2 => by rw [hS n h1 h2]; rfl
  | (f, t) :: l, m, k, S, ⟨h1, h2, h3, h4⟩, hk, hS => by
    simp only at h1 h2 h3 h4
    have hb := Chain.ofList h4
    have hn : ∀ n, Slot.ofList ((f, t) :: l) n = (decide (f ≤ n ∧ n ≤ t) || Slot.ofList l n) := fun n => by simp [Slot.ofList]
    refine ⟨by omega, h2, h3, fun n a b => ?_, fun n a b => ?_, fun a => ?_, ?_⟩
    · rw [hS n a (by omega), hn, hb n (by omega)]; simp; omega
    · rw [hS n (by omega) (by omega), hn]; simp [a, b]
    · rw [hS _ (by omega) a, hn, hb _ (by omega)]; simp
    · refine Chain.runs h4 (by omega) fun n a b => ?_
      rw [hS n (by omega) b, hn]
      have : ¬ (f ≤ n ∧ n ≤ t) := by omega
      simp [this]
theorem Runs.chain {S : Nat → Bool} : ∀ {l : List (Nat × Nat)} {k : Nat}, Runs S k l → Chain k l
  | [], _, _ => trivial
  | (f, t) :: l, k, ⟨h1, h2, h3, _, h5, h6, h7⟩ => by
    refine ⟨h1, h2, h3, ?_⟩
    cases l with
    | nil => trivial
    | cons q l =>
      obtain ⟨g1, g2, g3, g4⟩ := Runs.chain h7
      refine ⟨?_, g2, g3, g4⟩
      obtain ⟨f', t'⟩ := q
      obtain ⟨_, k2, k3, _, k5, _⟩ := h7
      simp only at g1 g2 g3 ⊢
      rcases Nat.lt_or_ge f' (t + 2) with h | h
      · have e : f' = t + 1 := by omega
        subst e
        have a := h6 (by omega)
        have b := k5 (t + 1) (Nat.le_refl _) k2
        rw [a] at b; cases b
      · exact h
theorem chain_runs {l : List (Nat × Nat)} (h : Chain 0 l) : Runs (Slot.ofList l) 0 l := h.runs (Nat.le_refl _) fun _ _ _ => rfl

end Slot
end Go.Proofs.YtgpdbcigogkkbaaDoor
