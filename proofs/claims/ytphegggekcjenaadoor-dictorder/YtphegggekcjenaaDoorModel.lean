/- A dict as a list of names and values, and how its tables stand: plain mathematics. -/
import Derived.WalkKit
namespace Go.Proofs.YtphegggekcjenaaDoor

abbrev Nm := List UInt8
/-- names and values -/
abbrev Its (α : Type) := List (Nm × α)
/-- the row behind a Put, as the document goes through it -/
def put1 {α : Type} (n : Nm) (v : α) : Bool → Its α → Its α
  | done, [] => if done then [] else [(n, v)]
  | done, x :: r => if x.1 = n then put1 n v done r else if done = false ∧ n < x.1 then (n, v) :: x :: put1 n v true r else x :: put1 n v done r
def delL {α : Type} (n : Nm) (l : Its α) : Its α := l.filter (fun x => !(x.1 == n))
def hasL {α : Type} (n : Nm) (l : Its α) : Bool := l.any (fun x => x.1 == n)
def getL {α : Type} (n : Nm) (l : Its α) : Option α := (l.find? (fun x => x.1 == n)).map (·.2)
/-- a dict -/
structure DM (α : Type) where
  L : Its α
  rooms : Nat
  left : Nat
def newD {α : Type} : DM α := ⟨[], 4, 0⟩
def stepD {α : Type} (d : DM α) : DM α := ⟨d.L, d.rooms, d.left - 1⟩
def stepB {α : Type} (d : DM α) : Bool := decide (d.left ≠ 0)
def grow {α : Type} (d : DM α) : DM α := if d.left = 0 ∧ d.rooms < d.L.length then ⟨d.L, 2 * d.rooms, d.rooms⟩ else d
def shrink {α : Type} (d : DM α) : DM α := if d.left = 0 ∧ 4 < d.rooms ∧ 4 * d.L.length < d.rooms then ⟨d.L, d.rooms / 2, d.rooms⟩ else d
def putD {α : Type} (d : DM α) (n : Nm) (v : α) : DM α := grow ⟨put1 n v false d.L, d.rooms, d.left - 1⟩
def delD {α : Type} (d : DM α) (n : Nm) : DM α := shrink ⟨delL n d.L, d.rooms, d.left - 1⟩
theorem grow_L {α : Type} (d : DM α) : (grow d).L = d.L := by unfold grow; split <;> rfl
theorem shrink_L {α : Type} (d : DM α) : (shrink d).L = d.L := by unfold shrink; split <;> rfl
theorem putD_L {α : Type} (d : DM α) (n : Nm) (v : α) : (putD d n v).L = put1 n v false d.L := grow_L _
theorem delD_L {α : Type} (d : DM α) (n : Nm) : (delD d n).L = delL n d.L := shrink_L _
/-- rising names -/
def Srt {α : Type} (l : Its α) : Prop := l.Pairwise (fun a b => a.1 < b.1)
theorem Srt.nil {α : Type} : Srt ([] : Its α) := List.Pairwise.nil
theorem nm_lt_irrefl (a : Nm) : ¬ a < a := List.lt_irrefl a
theorem nm_lt_trans {a b c : Nm} (h : a < b) (k : b < c) : a < c := List.lt_trans h k
theorem nm_lt_asymm {a b : Nm} (h : a < b) : ¬ b < a := fun k => nm_lt_irrefl a (nm_lt_trans h k)
theorem nm_lt_or (a b : Nm) : a < b ∨ a = b ∨ b < a := by
  by_cases h : a < b
  · exact .inl h
  · by_cases k : b < a
    · exact .inr (.inr k)
    · exact .inr (.inl (List.le_antisymm k h))
/-- once the name is in: the rest without it -/
theorem put1_done {α : Type} (n : Nm) (v : α) : ∀ l : Its α, put1 n v true l = delL n l
  | [] => rfl
  | x :: r => by
    by_cases h : x.1 = n
    · rw [put1, if_pos h, put1_done n v r]
      simp [delL, h]
    · rw [put1, if_neg h, if_neg (by simp), put1_done n v r]
      simp [delL, h]
theorem delL_mem {α : Type} {n : Nm} {l : Its α} {x : Nm × α} : x ∈ delL n l ↔ x ∈ l ∧ x.1 ≠ n := by simp [delL]
theorem put1_mem {α : Type} (n : Nm) (v : α) : ∀ (l : Its α) (x : Nm × α), x ∈ put1 n v false l ↔ x = (n, v) ∨ (x ∈ l ∧ x.1 ≠ n)
  | [], x => by simp [put1]
  | y :: r, x => by
    by_cases h : y.1 = n
    · rw [put1, if_pos h, put1_mem n v r x]
      constructor
      · rintro (h1 | ⟨h1, h2⟩)
        · exact .inl h1
        · exact .inr ⟨List.mem_cons_of_mem _ h1, h2⟩
      · rintro (h1 | ⟨h1, h2⟩)
        · exact .inl h1
        · rcases List.mem_cons.1 h1 with rfl | h3
          · exact absurd h h2
          · exact .inr ⟨h3, h2⟩
    · rw [put1, if_neg h]
      by_cases k : n < y.1
      · rw [if_pos ⟨rfl, k⟩, put1_done]
        simp only [List.mem_cons, delL_mem]
        constructor
        · rintro (h1 | rfl | ⟨h1, h2⟩)
          · exact .inl h1
          · exact .inr ⟨.inl rfl, h⟩
          · exact .inr ⟨.inr h1, h2⟩
        · rintro (h1 | ⟨rfl | h1, h2⟩)
          · exact .inl h1
          · exact .inr (.inl rfl)
          · exact .inr (.inr ⟨h1, h2⟩)
      · rw [if_neg (fun e => k e.2)]
        simp only [List.mem_cons, put1_mem n v r x]
        constructor
        · rintro (rfl | h1 | ⟨h1, h2⟩)
          · exact .inr ⟨.inl rfl, h⟩
          · exact .inl h1
          · exact .inr ⟨.inr h1, h2⟩
        · rintro (h1 | ⟨rfl | h1, h2⟩)
          · exact .inr (.inl h1)
          · exact .inl rfl
          · exact .inr (.inr ⟨h1, h2⟩)
theorem Srt.del {α : Type} {l : Its α} (h : Srt l) (n : Nm) : Srt (delL n l) := h.filter _
theorem Srt.put {α : Type} (n : Nm) (v : α) : ∀ {l : Its α}, Srt l → Srt (put1 n v false l)
  | [], _ => List.pairwise_singleton _ _
  | y :: r, h => by
    obtain ⟨h1, h2⟩ := List.pairwise_cons.1 h
    by_cases e : y.1 = n
    · rw [put1, if_pos e]
      exact Srt.put n v h2
    · rw [put1, if_neg e]
      by_cases k : n < y.1
      · rw [if_pos ⟨rfl, k⟩, put1_done]
        refine List.pairwise_cons.2 ⟨fun x hx => ?_, List.pairwise_cons.2 ⟨fun x hx => h1 x (delL_mem.1 hx).1, Srt.del h2 n⟩⟩
        rcases List.mem_cons.1 hx with rfl | hx
        · exact k
        · exact nm_lt_trans k (h1 x (delL_mem.1 hx).1)
      · rw [if_neg (fun e => k e.2)]
        refine List.pairwise_cons.2 ⟨fun x hx => ?_, Srt.put n v h2⟩
        rcases (put1_mem n v r x).1 hx with rfl | ⟨hx, _⟩
        · rcases nm_lt_or y.1 n with g | g | g
          · exact g
          · exact absurd g e
          · exact absurd g k
        · exact h1 x hx
/-- rising rows of the same names and values are the same -/
theorem Srt.ext {α : Type} : ∀ {l m : Its α}, Srt l → Srt m → (∀ x, x ∈ l ↔ x ∈ m) → l = m
  | [], [], _, _, _ => rfl
  | [], y :: m, _, _, h => by simpa using (h y).2 (by simp)
  | x :: l, [], _, _, h => by simpa using (h x).1 (by simp)
  | x :: l, y :: m, hl, hm, h => by
    obtain ⟨l1, l2⟩ := List.pairwise_cons.1 hl
    obtain ⟨m1, m2⟩ := List.pairwise_cons.1 hm
    have hxy : x = y := by
      rcases List.mem_cons.1 ((h x).1 (by simp)) with e | hx
      · exact e
      · rcases List.mem_cons.1 ((h y).2 (by simp)) with e | hy
        · exact e.symm
        · exact absurd (m1 x hx) (nm_lt_asymm (l1 y hy))
    subst hxy
    have : l = m := Srt.ext l2 m2 fun z => by
      constructor
      · intro hz
        rcases List.mem_cons.1 ((h z).1 (List.mem_cons_of_mem _ hz)) with e | g
        · subst e; exact absurd (l1 z hz) (nm_lt_irrefl _)
        · exact g
      · intro hz
        rcases List.mem_cons.1 ((h z).2 (List.mem_cons_of_mem _ hz)) with e | g
        · subst e; exact absurd (m1 z hz) (nm_lt_irrefl _)
        · exact g
    rw [this]
/-- a name has one value -/
theorem Srt.one {α : Type} {l : Its α} (h : Srt l) {n : Nm} {v w : α} (h1 : (n, v) ∈ l) (h2 : (n, w) ∈ l) : v = w := by
  induction l with
  | nil => cases h1
  | cons x r ih =>
    obtain ⟨a, b⟩ := List.pairwise_cons.1 h
    rcases List.mem_cons.1 h1 with e1 | e1
    · rcases List.mem_cons.1 h2 with e2 | e2
      · rw [← e1] at e2; exact (congrArg Prod.snd e2).symm
      · have := a _ e2; rw [← e1] at this; exact absurd this (nm_lt_irrefl _)
    · rcases List.mem_cons.1 h2 with e2 | e2
      · have := a _ e1; rw [← e2] at this; exact absurd this (nm_lt_irrefl _)
      · exact ih b e1 e2
theorem getL_mem {α : Type} {l : Its α} (h : Srt l) {n : Nm} {v : α} : getL n l = some v ↔ (n, v) ∈ l := by
  unfold getL
  constructor
  · intro e
    obtain ⟨x, hx, rfl⟩ := Option.map_eq_some_iff.1 e
    have h1 := List.mem_of_find?_eq_some hx
    have h2 := List.find?_some hx
    have : x.1 = n := by simpa using h2
    rw [← this]
    exact h1
  · intro m
    cases hf : l.find? (fun x => x.1 == n) with
    | none => exact absurd (List.find?_eq_none.1 hf _ m) (by simp)
    | some x =>
      have h1 := List.mem_of_find?_eq_some hf
      have h2 : x.1 = n := by simpa using List.find?_some hf
      have : x.2 = v := h.one (n := n) (by rw [← h2]; exact h1) m
      simp [this]
theorem hasL_mem {α : Type} {l : Its α} {n : Nm} : hasL n l = true ↔ ∃ v, (n, v) ∈ l := by
  simp only [hasL, List.any_eq_true, beq_iff_eq]
  constructor
  · rintro ⟨⟨a, b⟩, h, rfl⟩; exact ⟨b, h⟩
  · rintro ⟨v, h⟩; exact ⟨_, h, rfl⟩
theorem getL_none {α : Type} {l : Its α} {n : Nm} : getL n l = none ↔ hasL n l = false := by
  unfold getL hasL
  rw [Option.map_eq_none_iff, List.find?_eq_none, List.any_eq_false]
/-- what is put is got; others stay -/
theorem get_put {α : Type} {l : Its α} (h : Srt l) (n m : Nm) (v : α) : getL m (put1 n v false l) = if m = n then some v else getL m l := by
  have hp := h.put n v
  by_cases e : m = n
  · subst e
    rw [if_pos rfl, getL_mem hp, put1_mem]
    exact .inl rfl
  · rw [if_neg e]
    cases hg : getL m l with
    | some w =>
      rw [getL_mem hp, put1_mem]
      exact .inr ⟨(getL_mem h).1 hg, e⟩
    | none =>
      rw [getL_none]
      cases hh : hasL m (put1 n v false l) with
      | false => rfl
      | true =>
        obtain ⟨w, hw⟩ := hasL_mem.1 hh
        rcases (put1_mem n v l _).1 hw with e' | ⟨hw, _⟩
        · exact absurd (congrArg Prod.fst e') e
        · have := hasL_mem.2 ⟨w, hw⟩
          rw [getL_none.1 hg] at this
          cases this
theorem put1_len {α : Type} (n : Nm) (v : α) : ∀ (b : Bool) (l : Its α), (put1 n v b l).length ≤ l.length + 1
  | b, [] => by cases b <;> simp [put1]
  | b, x :: r => by
    have h1 := put1_len n v b r
    have h2 : (put1 n v true r).length ≤ r.length := by rw [put1_done]; exact List.length_filter_le _ _
    unfold put1
    split
    · simp; omega
    · split <;> simp <;> omega
theorem delL_len {α : Type} (n : Nm) (l : Its α) : (delL n l).length ≤ l.length := List.length_filter_le _ _
/-- a dict's numbers stay small -/
structure Small {α : Type} (k : Nat) (d : DM α) : Prop where
  len : d.L.length ≤ k
  rooms : d.rooms ≤ 4 + 2 * k
  left : d.left ≤ 4 + 2 * k
theorem Small.mono {α : Type} {k k' : Nat} {d : DM α} (h : Small k d) (hk : k ≤ k') : Small k' d := ⟨by have := h.len; omega, by have := h.rooms; omega, by have := h.left; omega⟩
theorem Small.put {α : Type} {k : Nat} {d : DM α} (h : Small k d) (n : Nm) (v : α) : Small (k + 1) (putD d n v) := by
  have h1 := put1_len n v false d.L
  obtain ⟨a, b, c⟩ := h
  unfold putD grow
  split
  · rename_i e
    exact ⟨by simp at e ⊢; omega, by simp at e ⊢; omega, by simp at e ⊢; omega⟩
  · exact ⟨by simp; omega, by simp; omega, by simp; omega⟩
theorem Small.del {α : Type} {k : Nat} {d : DM α} (h : Small k d) (n : Nm) : Small k (delD d n) := by
  have h1 := delL_len n d.L
  obtain ⟨a, b, c⟩ := h
  unfold delD shrink
  split
  · exact ⟨by simp; omega, by simp; omega, by simp; omega⟩
  · exact ⟨by simp; omega, by simp; omega, by simp; omega⟩
theorem Small.step {α : Type} {k : Nat} {d : DM α} (h : Small k d) : Small k (stepD d) := ⟨h.len, h.rooms, by have := h.left; simp [stepD]; omega⟩
theorem Small.new {α : Type} : Small 0 (newD : DM α) := ⟨by simp [newD], by simp [newD], by simp [newD]⟩

end Go.Proofs.YtphegggekcjenaaDoor
