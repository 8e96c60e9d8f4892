/- DcModel, DcTabP. -/
import Derived.WalkKit
namespace Go.Proofs.YtcbncdigejjcpaaGreatDoor.Dc

abbrev Nm := List UInt8
/-- names and values -/
abbrev Its (α : Type) := List (Nm × α)
/-- the row behind a Put, as the document goes through it -/
def put1 {α : Type} (n : Nm) (v : α) : Bool → Its α → Its α
  | done, [] => if done then [] else [(n, v)]
  | done, x :: r => if x.1 = n then put1 n v done r else if done = false ∧ n < x.1 then (n, v) :: x :: put1 n v true r else x :: put1 n v done r
def delL {α : Type} (n : Nm) (l : Its α) : Its α := l.filter (fun x => !(x.1 == n))
def hasL {α : Type} (n : Nm) (l : Its α) : Bool := l.any (fun x => x.1 == n)
def getL {α : Type} (n : Nm) (l : Its α) : Option α := (l.find? (fun x => x.1 == n)).map (·.2)
/-- a dict -/
structure DM (α : Type) where
  L : Its α
  rooms : Nat
  left : Nat
def newD {α : Type} : DM α := ⟨[], 4, 0⟩
def stepD {α : Type} (d : DM α) : DM α := ⟨d.L, d.rooms, d.left - 1⟩
def stepB {α : Type} (d : DM α) : Bool := decide (d.left ≠ 0)
def grow {α : Type} (d : DM α) : DM α := if d.left = 0 ∧ d.rooms < d.L.length then ⟨d.L, 2 * d.rooms, d.rooms⟩ else d
def shrink {α : Type} (d : DM α) : DM α := if d.left = 0 ∧ 4 < d.rooms ∧ 4 * d.L.length < d.rooms then ⟨d.L, d.rooms / 2, d.rooms⟩ else d
def putD {α : Type} (d : DM α) (n : Nm) (v : α) : DM α := grow ⟨put1 n v false d.L, d.rooms, d.left - 1⟩
def delD {α : Type} (d : DM α) (n : Nm) : DM α := shrink ⟨delL n d.L, d.rooms, d.left - 1⟩
theorem grow_L {α : Type} (d : DM α) : (grow d).L = d.L := by unfold grow; split <;> rfl
theorem shrink_L {α : Type} (d : DM α) : (shrink d).L = d.L := by unfold shrink; split <;> rfl
theorem putD_L {α : Type} (d : DM α) (n : Nm) (v : α) : (putD d n v).L = put1 n v false d.L := grow_L _
theorem delD_L {α : Type} (d : DM α) (n : Nm) : (delD d n).L = delL n d.L := shrink_L _
/-- rising names -/
def Srt {α : Type} (l : Its α) : Prop := l.Pairwise (fun a b => a.1 < b.1)
theorem Srt.nil {α : Type} : Srt ([] : Its α) := List.Pairwise.nil
theorem nm_lt_irrefl (a : Nm) : ¬ a < a := List.lt_irrefl a
theorem nm_lt_trans {a b c : Nm} (h : a < b) (k : b < c) : a < c := List.lt_trans h k
theorem nm_lt_asymm {a b : Nm} (h : a < b) : ¬ b < a := fun k => nm_lt_irrefl a (nm_lt_trans h k)
theorem nm_lt_or (a b : Nm) : a < b ∨ a = b ∨ b < a := by
  by_cases h : a < b
  · exact .inl h
  · by_cases k : b < a
    · exact .inr (.inr k)
    · exact .inr (.inl (List.le_antisymm k h))
/-- once the name is in: the rest without it -/
theorem put1_done {α : Type} (n : Nm) (v : α) : ∀ l : Its α, put1 n v true l = delL n l
  | [] => rfl
  | x :: r => by
    by_cases h : x.1 = n
    · rw [put1, if_pos h, put1_done n v r]
      simp [delL, h]
    · rw [put1, if_neg h, if_neg (by simp), put1_done n v r]
      simp [delL, h]
theorem delL_mem {α : Type} {n : Nm} {l : Its α} {x : Nm × α} : x ∈ delL n l ↔ x ∈ l ∧ x.1 ≠ n := by simp [delL]
theorem put1_mem {α : Type} (n : Nm) (v : α) : ∀ (l : Its α) (x : Nm × α), x ∈ put1 n v false l ↔ x = (n, v) ∨ (x ∈ l ∧ x.1 ≠ n)
  | [], x => by simp [put1]
  | y :: r, x => by
    by_cases h : y.1 = n
    · rw [put1, if_pos h, put1_mem n v r x]
      constructor
      · rintro (h1 | ⟨h1, h2⟩)
        · exact .inl h1
        · exact .inr ⟨List.mem_cons_of_mem _ h1, h2⟩
      · rintro (h1 | ⟨h1, h2⟩)
        · exact .inl h1
        · rcases List.mem_cons.1 h1 with rfl | h3
          · exact absurd h h2
          · exact .inr ⟨h3, h2⟩
    · rw [put1, if_neg h]
      by_cases k : n < y.1
      · rw [if_pos ⟨rfl, k⟩, put1_done]
        simp only [List.mem_cons, delL_mem]
        constructor
        · rintro (h1 | rfl | ⟨h1, h2⟩)
          · exact .inl h1
          · exact .inr ⟨.inl rfl, h⟩
          · exact .inr ⟨.inr h1, h2⟩
        · rintro (h1 | ⟨rfl | h1, h2⟩)
          · exact .inl h1
          · exact .inr (.inl rfl)
          · exact .inr (.inr ⟨h1, h2⟩)
      · rw [if_neg (fun e => k e.2)]
        simp only [List.mem_cons, put1_mem n v r x]
        constructor
        · rintro (rfl | h1 | ⟨h1, h2⟩)
          · exact .inr ⟨.inl rfl, h⟩
          · exact .inl h1
          · exact .inr ⟨.inr h1, h2⟩
        · rintro (h1 | ⟨rfl | h1, h2⟩)
          · exact .inr (.inl h1)
          · exact .inl rfl
          · exact .inr (.inr ⟨h1, h2⟩)
theorem Srt.del {α : Type} {l : Its α} (h : Srt l) (n : Nm) : Srt (delL n l) := h.filter _
theorem Srt.put {α : Type} (n : Nm) (v : α) : ∀ {l : Its α}, Srt l → Srt (put1 n v false l)
  | [], _ => List.pairwise_singleton _ _
  | y :: r, h => by
    obtain ⟨h1, h2⟩ := List.pairwise_cons.1 h
    by_cases e : y.1 = n
    · rw [put1, if_pos e]
      exact Srt.put n v h2
    · rw [put1, if_neg e]
      by_cases k : n < y.1
      · rw [if_pos ⟨rfl, k⟩, put1_done]
        refine List.pairwise_cons.2 ⟨fun x hx => ?_, List.pairwise_cons.2 ⟨fun x hx => h1 x (delL_mem.1 hx).1, Srt.del h2 n⟩⟩
        rcases List.mem_cons.1 hx with rfl | hx
        · exact k
        · exact nm_lt_trans k (h1 x (delL_mem.1 hx).1)
      · rw [if_neg (fun e => k e.2)]
        refine List.pairwise_cons.2 ⟨fun x hx => ?_, Srt.put n v h2⟩
        rcases (put1_mem n v r x).1 hx with rfl | ⟨hx, _⟩
        · rcases nm_lt_or y.1 n with g | g | g
          · exact g
          · exact absurd g e
          · exact absurd g k
        · exact h1 x hx
/-- a name has one value -/
theorem Srt.one {α : Type} {l : Its α} (h : Srt l) {n : Nm} {v w : α} (h1 : (n, v) ∈ l) (h2 : (n, w) ∈ l) : v = w := by
  induction l with
  | nil => cases h1
  | cons x r ih =>
    obtain ⟨a, b⟩ := List.pairwise_cons.1 h
    rcases List.mem_cons.1 h1 with e1 | e1
    · rcases List.mem_cons.1 h2 with e2 | e2
      · rw [← e1] at e2; exact (congrArg Prod.snd e2).symm
      · have := a _ e2; rw [← e1] at this; exact absurd this (nm_lt_irrefl _)
    · rcases List.mem_cons.1 h2 with e2 | e2
      · have := a _ e1; rw [← e2] at this; exact absurd this (nm_lt_irrefl _)
      · exact ih b e1 e2
theorem getL_mem {α : Type} {l : Its α} (h : Srt l) {n : Nm} {v : α} : getL n l = some v ↔ (n, v) ∈ l := by
  unfold getL
  constructor
  · intro e
    obtain ⟨x, hx, rfl⟩ := Option.map_eq_some_iff.1 e
    have h1 := List.mem_of_find?_eq_some hx
    have h2 := List.find?_some hx
    have : x.1 = n := by simpa using h2
    rw [← this]
    exact h1
  · intro m
    cases hf : l.find? (fun x => x.1 == n) with
    | none => exact absurd (List.find?_eq_none.1 hf _ m) (by simp)
    | some x =>
      have h1 := List.mem_of_find?_eq_some hf
      have h2 : x.1 = n := by simpa using List.find?_some hf
      have : x.2 = v := h.one (n := n) (by rw [← h2]; exact h1) m
      simp [this]
theorem hasL_mem {α : Type} {l : Its α} {n : Nm} : hasL n l = true ↔ ∃ v, (n, v) ∈ l := by
  simp only [hasL, List.any_eq_true, beq_iff_eq]
  constructor
  · rintro ⟨⟨a, b⟩, h, rfl⟩; exact ⟨b, h⟩
  · rintro ⟨v, h⟩; exact ⟨_, h, rfl⟩
theorem getL_none {α : Type} {l : Its α} {n : Nm} : getL n l = none ↔ hasL n l = false := by
  unfold getL hasL
  rw [Option.map_eq_none_iff, List.find?_eq_none, List.any_eq_false]
theorem put1_len {α : Type} (n : Nm) (v : α) : ∀ (b : Bool) (l : Its α), (put1 n v b l).length ≤ l.length + 1
  | b, [] => by cases b <;> simp [put1]
  | b, x :: r => by
    have h1 := put1_len n v b r
    have h2 : (put1 n v true r).length ≤ r.length := by rw [put1_done]; exact List.length_filter_le _ _
    unfold put1
    split
    · simp; omega
    · split <;> simp <;> omega
theorem delL_len {α : Type} (n : Nm) (l : Its α) : (delL n l).length ≤ l.length := List.length_filter_le _ _
/-- a dict's numbers stay small -/
structure Small {α : Type} (k : Nat) (d : DM α) : Prop where
  len : d.L.length ≤ k
  rooms : d.rooms ≤ 4 + 2 * k
  left : d.left ≤ 4 + 2 * k
theorem Small.mono {α : Type} {k k' : Nat} {d : DM α} (h : Small k d) (hk : k ≤ k') : Small k' d := ⟨by have := h.len; omega, by have := h.rooms; omega, by have := h.left; omega⟩
theorem Small.put {α : Type} {k : Nat} {d : DM α} (h : Small k d) (n : Nm) (v : α) : Small (k + 1) (putD d n v) := by
  have h1 := put1_len n v false d.L
  obtain ⟨a, b, c⟩ := h
  unfold putD grow
  split
  · rename_i e
    exact ⟨by simp at e ⊢; omega, by simp at e ⊢; omega, by simp at e ⊢; omega⟩
  · exact ⟨by simp; omega, by simp; omega, by simp; omega⟩
theorem Small.del {α : Type} {k : Nat} {d : DM α} (h : Small k d) (n : Nm) : Small k (delD d n) := by
  have h1 := delL_len n d.L
  obtain ⟨a, b, c⟩ := h
  unfold delD shrink
  split
  · exact ⟨by simp; omega, by simp; omega, by simp; omega⟩
  · exact ⟨by simp; omega, by simp; omega, by simp; omega⟩
theorem Small.step {α : Type} {k : Nat} {d : DM α} (h : Small k d) : Small k (stepD d) := ⟨h.len, h.rooms, by have := h.left; simp [stepD]; omega⟩
theorem Small.new {α : Type} : Small 0 (newD : DM α) := ⟨by simp [newD], by simp [newD], by simp [newD]⟩

end Go.Proofs.YtcbncdigejjcpaaGreatDoor.Dc

namespace Go.Proofs.YtcbncdigejjcpaaGreatDoor.Dc

/-- a table of rooms -/
abbrev Tb (α : Type) := List (Its α)
/-- both tables, and how many rooms of the elder one are taken over -/
structure TM (α : Type) where
  nw : Tb α
  el : Tb α
  tk : Nat
def allT {α : Type} (T : TM α) : Its α := T.el.flatten ++ T.nw.flatten
/-- every name is in its room -/
def Home {α : Type} (h : Nm → Nat) (l : Tb α) : Prop := ∀ i (hi : i < l.length), ∀ x ∈ l[i], h x.1 % l.length = i
structure Good {α : Type} (h : Nm → Nat) (T : TM α) (D : DM α) : Prop where
  rooms : T.nw.length = D.rooms
  pow : ∃ k, D.rooms = 4 * 2 ^ k
  homeN : Home h T.nw
  homeE : Home h T.el
  gone : ∀ i (hi : i < T.el.length), i < T.tk → T.el[i] = []
  left : D.left = T.el.length - T.tk
  tk : (T.el = [] ∧ T.tk = 0) ∨ T.tk < T.el.length
  elN : T.el.length ≤ 2 * T.nw.length
  perm : (allT T).Perm D.L
  srt : Srt D.L
theorem flat_set {α : Type} : ∀ (l : Tb α) (i : Nat) (_ : i < l.length) (m : Its α), (l.set i m).flatten.Perm (m ++ (l.set i []).flatten)
  | x :: r, 0, _, m => by simp
  | x :: r, i + 1, hi, m => by
    simp only [List.set_cons_succ, List.flatten_cons]
    exact ((flat_set r i (by simpa using hi) m).append_left x).trans (List.perm_append_comm_assoc _ _ _)
theorem flat_get {α : Type} (l : Tb α) (i : Nat) (hi : i < l.length) : l.flatten.Perm (l[i] ++ (l.set i []).flatten) := by
  have := flat_set l i hi l[i]
  rwa [List.set_getElem_self] at this
theorem put1_perm {α : Type} (n : Nm) (v : α) : ∀ L : Its α, (put1 n v false L).Perm ((n, v) :: delL n L)
  | [] => by simp [put1, delL]
  | x :: r => by
    by_cases e : x.1 = n
    · rw [put1, if_pos e, show delL n (x :: r) = delL n r by simp [delL, e]]
      exact put1_perm n v r
    · rw [put1, if_neg e, show delL n (x :: r) = x :: delL n r by simp [delL, e]]
      by_cases k : n < x.1
      · rw [if_pos ⟨rfl, k⟩, put1_done]
      · rw [if_neg (fun e => k e.2)]
        exact ((put1_perm n v r).cons x).trans (List.Perm.swap _ _ _)
theorem Srt.nodup {α : Type} {l : Its α} (h : Srt l) : (l.map (·.1)).Nodup := by
  rw [List.nodup_iff_pairwise_ne, List.pairwise_map]
  unfold Srt at h
  refine h.imp ?_
  intro a b hab e
  rw [e] at hab
  exact nm_lt_irrefl _ hab
theorem getD_at {β : Type} (l : List β) (d : β) (i : Nat) (hi : i < l.length) : l.getD i d = l[i] := by simp [hi]
/-- a name that is there -/
theorem perm_del {α : Type} {L R : Its α} {n : Nm} {v : α} (hs : Srt L) (hp : ((n, v) :: R).Perm L) : (delL n L).Perm R ∧ hasL n L = true ∧ getL n L = some v := by
  have hm : (n, v) ∈ L := hp.mem_iff.1 (by simp)
  refine ⟨?_, hasL_mem.2 ⟨v, hm⟩, (getL_mem hs).2 hm⟩
  have hnd : ((n, v) :: R).map (·.1) |>.Nodup := ((hp.map (·.1)).nodup_iff).2 hs.nodup
  simp only [List.map_cons, List.nodup_cons, List.mem_map, not_exists, not_and] at hnd
  have h1 := (hp.filter (fun x : Nm × α => !(x.1 == n))).symm
  have h2 : ((n, v) :: R).filter (fun x : Nm × α => !(x.1 == n)) = R := by
    rw [List.filter_cons_of_neg (by simp), List.filter_eq_self]
    intro a ha
    have := hnd.1 a ha
    simpa using this
  rw [h2] at h1
  exact h1
theorem del_none {α : Type} {L : Its α} {n : Nm} (h : hasL n L = false) : delL n L = L := by
  unfold delL
  rw [List.filter_eq_self]
  intro a ha
  have := List.any_eq_false.1 h a ha
  simpa using this
theorem Home.set {α : Type} {h : Nm → Nat} {l : Tb α} (hl : Home h l) (i : Nat) (m : Its α) (hm : ∀ x ∈ m, h x.1 % l.length = i) : Home h (l.set i m) := by
  intro j hj x hx
  rw [List.length_set] at hj ⊢
  rw [List.getElem_set] at hx
  split at hx
  · rename_i e; subst e; exact hm x hx
  · exact hl j hj x hx
theorem Home.none {α : Type} (h : Nm → Nat) (k : Nat) : Home h (List.replicate k ([] : Its α)) := by
  intro i hi x hx
  simp at hx
theorem Home.mem {α : Type} {h : Nm → Nat} {l : Tb α} (hl : Home h l) {x : Nm × α} (hx : x ∈ l.flatten) : ∃ hi : h x.1 % l.length < l.length, x ∈ l[h x.1 % l.length] := by
  obtain ⟨r, hr, hx⟩ := List.mem_flatten.1 hx
  obtain ⟨i, hi, rfl⟩ := List.mem_iff_getElem.1 hr
  have := hl i hi x hx
  exact ⟨by rw [this]; exact hi, by simpa [this] using hx⟩
/-- a name that is in neither room -/
theorem Good.lacks {α : Type} {h : Nm → Nat} {T : TM α} {D : DM α} (g : Good h T D) (n : Nm) (hN : ∀ hi : h n % T.nw.length < T.nw.length, ∀ x ∈ T.nw[h n % T.nw.length], x.1 ≠ n) (hE : ∀ hi : h n % T.el.length < T.el.length, ∀ x ∈ T.el[h n % T.el.length], x.1 ≠ n) : hasL n D.L = false := by
  cases hh : hasL n D.L with
  | false => rfl
  | true =>
    obtain ⟨v, hv⟩ := hasL_mem.1 hh
    have := g.perm.mem_iff.2 hv
    rcases List.mem_append.1 this with h1 | h1
    · obtain ⟨hi, hx⟩ := g.homeE.mem h1
      exact absurd rfl (hE hi _ hx)
    · obtain ⟨hi, hx⟩ := g.homeN.mem h1
      exact absurd rfl (hN hi _ hx)
/-- what is there beside a room of the newer table -/
theorem Good.permN {α : Type} {h : Nm → Nat} {T : TM α} {D : DM α} (g : Good h T D) (i : Nat) (hi : i < T.nw.length) : (T.nw[i] ++ (T.el.flatten ++ (T.nw.set i []).flatten)).Perm D.L :=
  (((flat_get T.nw i hi).append_left T.el.flatten).trans (List.perm_append_comm_assoc _ _ _)).symm.trans g.perm
theorem Good.permE {α : Type} {h : Nm → Nat} {T : TM α} {D : DM α} (g : Good h T D) (i : Nat) (hi : i < T.el.length) : (T.el[i] ++ ((T.el.set i []).flatten ++ T.nw.flatten)).Perm D.L := by
  refine List.Perm.trans ?_ g.perm
  rw [← List.append_assoc]
  exact ((flat_get T.el i hi).append_right T.nw.flatten).symm
/-- a room of the newer table is another one -/
theorem Good.setN {α : Type} {h : Nm → Nat} {T : TM α} {D : DM α} (g : Good h T D) (i : Nat) (hi : i < T.nw.length) (m : Its α) (L : Its α) (hm : ∀ x ∈ m, h x.1 % T.nw.length = i) (hp : (m ++ (T.el.flatten ++ (T.nw.set i []).flatten)).Perm L) (hs : Srt L) : Good h ⟨T.nw.set i m, T.el, T.tk⟩ ⟨L, D.rooms, D.left⟩ where
  rooms := by simpa using g.rooms
  pow := g.pow
  homeN := g.homeN.set i m hm
  homeE := g.homeE
  gone := g.gone
  left := g.left
  tk := g.tk
  elN := by simpa using g.elN
  perm := (((flat_set T.nw i hi m).append_left T.el.flatten).trans (List.perm_append_comm_assoc _ _ _)).trans hp
  srt := hs
theorem Good.setE {α : Type} {h : Nm → Nat} {T : TM α} {D : DM α} (g : Good h T D) (i : Nat) (hi : i < T.el.length) (m : Its α) (L : Its α) (hm : ∀ x ∈ m, h x.1 % T.el.length = i) (hg : i < T.tk → m = []) (hp : (m ++ ((T.el.set i []).flatten ++ T.nw.flatten)).Perm L) (hs : Srt L) : Good h ⟨T.nw, T.el.set i m, T.tk⟩ ⟨L, D.rooms, D.left⟩ where
  rooms := g.rooms
  pow := g.pow
  homeN := g.homeN
  homeE := g.homeE.set i m hm
  gone := fun j hj hk => by
    simp only [List.length_set] at hj
    simp only [List.getElem_set]
    split
    · rename_i e; subst e; exact hg hk
    · exact g.gone j hj hk
  left := by simpa using g.left
  tk := by
    rcases g.tk with ⟨h1, h2⟩ | h1
    · rw [h1] at hi; simp at hi
    · exact .inr (by simpa using h1)
  elN := by simpa using g.elN
  perm := by
    refine List.Perm.trans ?_ hp
    rw [← List.append_assoc]
    exact (flat_set T.el i hi m).append_right T.nw.flatten
  srt := hs
theorem mid_perm {α : Type} (a b r : Its α) (x : Nm × α) : (x :: (a ++ b ++ r)).Perm (a ++ x :: b ++ r) := by
  rw [List.append_assoc, List.append_assoc]
  exact List.perm_middle.symm
theorem part_mem {α : Type} {l a b : Its α} {x : Nm × α} (e : l = a ++ x :: b) {P : Nm × α → Prop} (h : ∀ y ∈ l, P y) : (∀ y ∈ a, P y) ∧ P x ∧ ∀ y ∈ b, P y := by
  subst e
  exact ⟨fun y hy => h y (by simp [hy]), h x (by simp), fun y hy => h y (by simp [hy])⟩
/-- the name's room -/
abbrev at_ (h : Nm → Nat) {α : Type} (n : Nm) (l : Tb α) : Nat := h n % l.length
theorem Good.foundN {α : Type} {h : Nm → Nat} {T : TM α} {D : DM α} (g : Good h T D) {n : Nm} {i : Nat} (hi : i < T.nw.length) {a b : Its α} {v0 : α} (e : T.nw[i] = a ++ (n, v0) :: b) : (delL n D.L).Perm (a ++ b ++ (T.el.flatten ++ (T.nw.set i []).flatten)) ∧ hasL n D.L = true ∧ getL n D.L = some v0 := by
  have hp := g.permN i hi
  rw [e] at hp
  exact perm_del g.srt ((mid_perm a b _ (n, v0)).trans hp)
theorem Good.foundE {α : Type} {h : Nm → Nat} {T : TM α} {D : DM α} (g : Good h T D) {n : Nm} {i : Nat} (hi : i < T.el.length) {a b : Its α} {v0 : α} (e : T.el[i] = a ++ (n, v0) :: b) : (delL n D.L).Perm (a ++ b ++ ((T.el.set i []).flatten ++ T.nw.flatten)) ∧ hasL n D.L = true ∧ getL n D.L = some v0 := by
  have hp := g.permE i hi
  rw [e] at hp
  exact perm_del g.srt ((mid_perm a b _ (n, v0)).trans hp)
/-- a value is another one -/
theorem Good.putN {α : Type} {h : Nm → Nat} {T : TM α} {D : DM α} (g : Good h T D) {n : Nm} {i : Nat} (hi : i < T.nw.length) {a b : Its α} {v0 : α} (e : T.nw[i] = a ++ (n, v0) :: b) (v : α) : Good h ⟨T.nw.set i (a ++ (n, v) :: b), T.el, T.tk⟩ ⟨put1 n v false D.L, D.rooms, D.left⟩ := by
  obtain ⟨h1, _⟩ := g.foundN hi e
  obtain ⟨m1, m2, m3⟩ := part_mem e (g.homeN i hi)
  refine g.setN i hi _ _ (fun x hx => ?_) ?_ (g.srt.put n v)
  · rcases List.mem_append.1 hx with hx | hx
    · exact m1 x hx
    · rcases List.mem_cons.1 hx with rfl | hx
      · exact m2
      · exact m3 x hx
  · exact ((mid_perm a b _ (n, v)).symm.trans (h1.symm.cons (n, v))).trans (put1_perm n v D.L).symm
theorem Good.putE {α : Type} {h : Nm → Nat} {T : TM α} {D : DM α} (g : Good h T D) {n : Nm} {i : Nat} (hi : i < T.el.length) {a b : Its α} {v0 : α} (e : T.el[i] = a ++ (n, v0) :: b) (v : α) : Good h ⟨T.nw, T.el.set i (a ++ (n, v) :: b), T.tk⟩ ⟨put1 n v false D.L, D.rooms, D.left⟩ := by
  obtain ⟨h1, _⟩ := g.foundE hi e
  obtain ⟨m1, m2, m3⟩ := part_mem e (g.homeE i hi)
  refine g.setE i hi _ _ (fun x hx => ?_) (fun hk => ?_) ?_ (g.srt.put n v)
  · rcases List.mem_append.1 hx with hx | hx
    · exact m1 x hx
    · rcases List.mem_cons.1 hx with rfl | hx
      · exact m2
      · exact m3 x hx
  · have := g.gone i hi hk
    rw [e] at this
    simp at this
  · exact ((mid_perm a b _ (n, v)).symm.trans (h1.symm.cons (n, v))).trans (put1_perm n v D.L).symm
/-- a new name -/
theorem Good.add {α : Type} {h : Nm → Nat} {T : TM α} {D : DM α} (g : Good h T D) {n : Nm} (hi : h n % T.nw.length < T.nw.length) (hn : hasL n D.L = false) (v : α) : Good h ⟨T.nw.set (h n % T.nw.length) (T.nw[h n % T.nw.length] ++ [(n, v)]), T.el, T.tk⟩ ⟨put1 n v false D.L, D.rooms, D.left⟩ := by
  refine g.setN _ hi _ _ (fun x hx => ?_) ?_ (g.srt.put n v)
  · rcases List.mem_append.1 hx with hx | hx
    · exact g.homeN _ hi x hx
    · rw [List.mem_singleton.1 hx]
  · refine List.Perm.trans ?_ (put1_perm n v D.L).symm
    rw [del_none hn]
    refine List.Perm.trans ?_ ((g.permN _ hi).cons (n, v))
    rw [List.append_assoc]
    exact List.perm_middle
/-- a name is taken out -/
theorem Good.delN {α : Type} {h : Nm → Nat} {T : TM α} {D : DM α} (g : Good h T D) {n : Nm} {i : Nat} (hi : i < T.nw.length) {a b : Its α} {v0 : α} (e : T.nw[i] = a ++ (n, v0) :: b) : Good h ⟨T.nw.set i (a ++ b), T.el, T.tk⟩ ⟨delL n D.L, D.rooms, D.left⟩ := by
  obtain ⟨h1, _⟩ := g.foundN hi e
  obtain ⟨m1, m2, m3⟩ := part_mem e (g.homeN i hi)
  refine g.setN i hi _ _ (fun x hx => ?_) h1.symm (g.srt.del n)
  rcases List.mem_append.1 hx with hx | hx
  · exact m1 x hx
  · exact m3 x hx
theorem Good.delE {α : Type} {h : Nm → Nat} {T : TM α} {D : DM α} (g : Good h T D) {n : Nm} {i : Nat} (hi : i < T.el.length) {a b : Its α} {v0 : α} (e : T.el[i] = a ++ (n, v0) :: b) : Good h ⟨T.nw, T.el.set i (a ++ b), T.tk⟩ ⟨delL n D.L, D.rooms, D.left⟩ := by
  obtain ⟨h1, _⟩ := g.foundE hi e
  obtain ⟨m1, m2, m3⟩ := part_mem e (g.homeE i hi)
  refine g.setE i hi _ _ (fun x hx => ?_) (fun hk => ?_) h1.symm (g.srt.del n)
  · rcases List.mem_append.1 hx with hx | hx
    · exact m1 x hx
    · exact m3 x hx
  · have := g.gone i hi hk
    rw [e] at this
    simp at this
/-- one name more in a table, and several -/
def add1 {α : Type} (h : Nm → Nat) (l : Tb α) (x : Nm × α) : Tb α := l.set (h x.1 % l.length) (l.getD (h x.1 % l.length) [] ++ [x])
def adds {α : Type} (h : Nm → Nat) (l : Tb α) (r : Its α) : Tb α := r.foldl (add1 h) l
theorem add1_len {α : Type} (h : Nm → Nat) (l : Tb α) (x : Nm × α) : (add1 h l x).length = l.length := by simp [add1]
theorem adds_len {α : Type} (h : Nm → Nat) : ∀ (r : Its α) (l : Tb α), (adds h l r).length = l.length
  | [], _ => rfl
  | x :: r, l => by
    show (adds h (add1 h l x) r).length = _
    rw [adds_len h r, add1_len]
theorem adds_snoc {α : Type} (h : Nm → Nat) (l : Tb α) (r : Its α) (k : Nat) (hk : k < r.length) : adds h l (r.take (k + 1)) = add1 h (adds h l (r.take k)) r[k] := by
  unfold adds
  rw [List.take_succ_eq_append_getElem hk, List.foldl_append]
  rfl
theorem add1_home {α : Type} {h : Nm → Nat} {l : Tb α} (hl : Home h l) (x : Nm × α) : Home h (add1 h l x) := by
  refine hl.set _ _ (fun y hy => ?_)
  rcases List.mem_append.1 hy with hy | hy
  · by_cases hi : h x.1 % l.length < l.length
    · rw [getD_at _ _ _ hi] at hy
      exact hl _ hi y hy
    · rw [List.getD_eq_getElem?_getD, List.getElem?_eq_none (by omega)] at hy
      simp at hy
  · rw [List.mem_singleton.1 hy]
theorem adds_home {α : Type} {h : Nm → Nat} : ∀ (r : Its α) {l : Tb α}, Home h l → Home h (adds h l r)
  | [], _, hl => hl
  | x :: r, _, hl => adds_home r (add1_home hl x)
theorem add1_perm {α : Type} (h : Nm → Nat) (l : Tb α) (x : Nm × α) (hl : 0 < l.length) : (add1 h l x).flatten.Perm (x :: l.flatten) := by
  have hi : h x.1 % l.length < l.length := Nat.mod_lt _ hl
  unfold add1
  refine (flat_set l _ hi _).trans ?_
  rw [getD_at _ _ _ hi, List.append_assoc]
  exact (List.perm_middle (a := x) (l₁ := l[h x.1 % l.length]) (l₂ := (l.set (h x.1 % l.length) []).flatten)).trans ((flat_get l _ hi).symm.cons x)
theorem adds_perm {α : Type} (h : Nm → Nat) : ∀ (r : Its α) (l : Tb α), 0 < l.length → (adds h l r).flatten.Perm (r ++ l.flatten)
  | [], l, _ => List.Perm.refl _
  | x :: r, l, hl => by
    show (adds h (add1 h l x) r).flatten.Perm _
    exact ((adds_perm h r (add1 h l x) (by rw [add1_len]; exact hl)).trans ((add1_perm h l x hl).append_left r)).trans List.perm_middle
/-- a room is taken over -/
def tookT {α : Type} (h : Nm → Nat) (T : TM α) : TM α := if T.tk + 1 = T.el.length then ⟨adds h T.nw (T.el.getD T.tk []), [], 0⟩ else ⟨adds h T.nw (T.el.getD T.tk []), T.el.set T.tk [], T.tk + 1⟩
theorem Good.npos {α : Type} {h : Nm → Nat} {T : TM α} {D : DM α} (g : Good h T D) : 4 ≤ T.nw.length := by
  obtain ⟨k, hk⟩ := g.pow
  rw [g.rooms, hk]
  have := Nat.pow_pos (n := k) (show 0 < 2 by decide)
  omega
theorem flat_gone {α : Type} : ∀ {l : Tb α}, (∀ r ∈ l, r = []) → l.flatten = []
  | [], _ => rfl
  | x :: r, h => by
    rw [List.flatten_cons, h x (by simp), flat_gone (fun y hy => h y (by simp [hy]))]
    rfl
theorem Good.took {α : Type} {h : Nm → Nat} {T : TM α} {D : DM α} (g : Good h T D) (he : T.tk < T.el.length) : Good h (tookT h T) (stepD D) := by
  have hN := g.npos
  have hp := g.permE T.tk he
  have hgd : T.el.getD T.tk [] = T.el[T.tk] := getD_at _ _ _ he
  have hq : ((T.el.set T.tk []).flatten ++ (adds h T.nw T.el[T.tk]).flatten).Perm D.L :=
    (((adds_perm h T.el[T.tk] T.nw (by omega)).append_left _).trans (List.perm_append_comm_assoc _ _ _)).trans hp
  unfold tookT
  rw [hgd]
  split
  · rename_i hlast
    refine ⟨?_, g.pow, adds_home _ g.homeN, fun i hi => by simp at hi, fun i hi => by simp at hi, ?_, .inl ⟨rfl, rfl⟩, by simp, ?_, g.srt⟩
    · show (adds h T.nw T.el[T.tk]).length = D.rooms
      rw [adds_len]; exact g.rooms
    · show D.left - 1 = 0 - 0
      rw [g.left]; omega
    · refine List.Perm.trans ?_ hq
      rw [flat_gone (l := T.el.set T.tk [])]
      · rfl
      · intro r hr
        obtain ⟨i, hi, rfl⟩ := List.mem_iff_getElem.1 hr
        rw [List.length_set] at hi
        rw [List.getElem_set]
        split
        · rfl
        · exact g.gone i hi (by omega)
  · refine ⟨?_, g.pow, adds_home _ g.homeN, g.homeE.set _ _ (fun x hx => by cases hx), fun i hi hk => ?_, ?_, .inr ?_, by simpa [adds_len] using g.elN, hq, g.srt⟩
    · show (adds h T.nw T.el[T.tk]).length = D.rooms
      rw [adds_len]; exact g.rooms
    · simp only [List.length_set] at hi
      simp only [List.getElem_set]
      split
      · rfl
      · exact g.gone i hi (by simp at hk; omega)
    · show D.left - 1 = (T.el.set T.tk []).length - (T.tk + 1)
      rw [g.left, List.length_set]; omega
    · show T.tk + 1 < (T.el.set T.tk []).length
      rw [List.length_set]; omega
theorem Good.left0 {α : Type} {h : Nm → Nat} {T : TM α} {D : DM α} (g : Good h T D) : D.left = 0 ↔ T.el = [] := by
  rw [g.left]
  rcases g.tk with ⟨h1, h2⟩ | h1
  · rw [h1, h2]; simp
  · constructor
    · intro e; omega
    · intro e; rw [e] at h1; simp at h1
theorem Good.rest {α : Type} {h : Nm → Nat} {T : TM α} {D : DM α} (g : Good h T D) (he : T.el = []) : Good h T (stepD D) := by
  have := g.left0.2 he
  have e : stepD D = D := by unfold stepD; rw [this]; cases D; simp at this; simp [this]
  rw [e]
  exact g
/-- another table is begun -/
theorem Good.begins {α : Type} {h : Nm → Nat} {T : TM α} {D : DM α} (g : Good h T D) (he : T.el = []) (k : Nat) (hk : D.rooms ≤ 2 * (4 * 2 ^ k)) : Good h ⟨List.replicate (4 * 2 ^ k) [], T.nw, T.tk⟩ ⟨D.L, 4 * 2 ^ k, D.rooms⟩ where
  rooms := by simp
  pow := ⟨k, rfl⟩
  homeN := Home.none h _
  homeE := g.homeN
  gone := fun i hi hj => by
    rcases g.tk with ⟨_, h2⟩ | h1
    · simp only [h2] at hj; omega
    · rw [he] at h1; simp at h1
  left := by
    rcases g.tk with ⟨_, h2⟩ | h1
    · simp only [h2]; rw [g.rooms]; rfl
    · rw [he] at h1; simp at h1
  tk := .inr (by
    have := g.npos
    rcases g.tk with ⟨_, h2⟩ | h1
    · simp only [h2]; omega
    · rw [he] at h1; simp at h1)
  elN := by simpa [g.rooms] using hk
  perm := by
    have := g.perm
    unfold allT at this ⊢
    rw [he] at this
    simpa using this
  srt := g.srt
theorem Good.grown {α : Type} {h : Nm → Nat} {T : TM α} {D : DM α} (g : Good h T D) (he : T.el = []) (hl : D.rooms < D.L.length) : Good h ⟨List.replicate (2 * D.rooms) [], T.nw, T.tk⟩ (grow D) := by
  obtain ⟨k, hk⟩ := g.pow
  have h2 : 2 * D.rooms = 4 * 2 ^ (k + 1) := by rw [hk, Nat.pow_succ]; omega
  rw [grow, if_pos ⟨g.left0.2 he, hl⟩, h2]
  exact g.begins he (k + 1) (by rw [← h2]; omega)
theorem Good.shrunk {α : Type} {h : Nm → Nat} {T : TM α} {D : DM α} (g : Good h T D) (he : T.el = []) (h4 : 4 < D.rooms) (hl : 4 * D.L.length < D.rooms) : Good h ⟨List.replicate (D.rooms / 2) [], T.nw, T.tk⟩ (shrink D) := by
  obtain ⟨k, hk⟩ := g.pow
  obtain ⟨j, rfl⟩ : ∃ j, k = j + 1 := by
    cases k with
    | zero => rw [hk] at h4; simp at h4
    | succ j => exact ⟨j, rfl⟩
  have h2 : D.rooms / 2 = 4 * 2 ^ j := by rw [hk, Nat.pow_succ]; omega
  rw [shrink, if_pos ⟨g.left0.2 he, h4, hl⟩, h2]
  exact g.begins he j (by rw [← h2, hk, Nat.pow_succ]; omega)
/-- no table is begun -/
theorem Good.stay {α : Type} {h : Nm → Nat} {T : TM α} {D : DM α} (g : Good h T D) (hn : ¬ (T.el = [] ∧ D.rooms < D.L.length)) : Good h T (grow D) := by
  rw [grow, if_neg (fun e => hn ⟨g.left0.1 e.1, e.2⟩)]
  exact g
theorem Good.stayS {α : Type} {h : Nm → Nat} {T : TM α} {D : DM α} (g : Good h T D) (hn : ¬ (T.el = [] ∧ 4 < D.rooms ∧ 4 * D.L.length < D.rooms)) : Good h T (shrink D) := by
  rw [shrink, if_neg (fun e => hn ⟨g.left0.1 e.1, e.2⟩)]
  exact g
/-- a quarter of the rooms -/
theorem Good.quarter {α : Type} {h : Nm → Nat} {T : TM α} {D : DM α} (g : Good h T D) : 4 * (D.rooms / 4) = D.rooms := by
  obtain ⟨k, hk⟩ := g.pow
  rw [hk]
  omega
/-- where a name stands in a room -/
def plc {α : Type} (n : Nm) (l : Its α) : Option Nat := l.findIdx? (fun x => x.1 == n)
theorem plc_some {α : Type} {n : Nm} : ∀ {l : Its α} {k : Nat}, plc n l = some k → ∃ v, ∃ hk : k < l.length, l[k] = (n, v) ∧ l = l.take k ++ (n, v) :: l.drop (k + 1)
  | l, k, h => by
    obtain ⟨hk, h1, _⟩ := List.findIdx?_eq_some_iff_getElem.1 h
    have h2 : l[k].1 = n := by simpa using h1
    refine ⟨l[k].2, hk, by rw [← h2], ?_⟩
    rw [← h2]
    rw [← List.drop_eq_getElem_cons hk, List.take_append_drop]
theorem plc_none {α : Type} {n : Nm} {l : Its α} (h : plc n l = none) : ∀ x ∈ l, x.1 ≠ n := by
  intro x hx
  have := List.findIdx?_eq_none_iff.1 h x hx
  simpa using this
theorem Good.new {α : Type} (h : Nm → Nat) : Good h ⟨List.replicate 4 [], [], 0⟩ (newD : DM α) := ⟨rfl, ⟨0, rfl⟩, Home.none h 4, fun i hi => by simp at hi, fun i hi => by simp at hi, rfl, .inl ⟨rfl, rfl⟩, by simp, by simp [allT, newD], Srt.nil⟩
theorem Good.count {α : Type} {h : Nm → Nat} {T : TM α} {D : DM α} (g : Good h T D) : T.el.flatten.length + T.nw.flatten.length = D.L.length := by
  rw [← g.perm.length_eq, allT, List.length_append]
theorem room_len {α : Type} (l : Tb α) (i : Nat) (hi : i < l.length) : l[i].length ≤ l.flatten.length := by
  have := (flat_get l i hi).length_eq
  rw [List.length_append] at this
  omega
theorem Good.roomN {α : Type} {h : Nm → Nat} {T : TM α} {D : DM α} (g : Good h T D) (i : Nat) (hi : i < T.nw.length) : T.nw[i].length ≤ D.L.length := by
  have := g.count
  have := room_len T.nw i hi
  omega
theorem Good.roomE {α : Type} {h : Nm → Nat} {T : TM α} {D : DM α} (g : Good h T D) (i : Nat) (hi : i < T.el.length) : T.el[i].length ≤ D.L.length := by
  have := g.count
  have := room_len T.el i hi
  omega
/-- a room behind several names more -/
theorem adds_room {α : Type} (h : Nm → Nat) (l : Tb α) (r : Its α) (hl : 0 < l.length) (i : Nat) (hi : i < (adds h l r).length) : (adds h l r)[i].length ≤ r.length + l.flatten.length := by
  have h1 := room_len (adds h l r) i hi
  have h2 := (adds_perm h r l hl).length_eq
  rw [List.length_append] at h2
  omega

end Go.Proofs.YtcbncdigejjcpaaGreatDoor.Dc
