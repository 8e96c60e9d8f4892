/- Model, SeSide. -/
import Derived.WalkKit
namespace Go.Proofs.YtcbncdigejjcpaaGreatDoor

abbrev Nm := List UInt8
theorem nm_lt_irrefl (a : Nm) : ¬ a < a := List.lt_irrefl a
theorem nm_lt_trans {a b c : Nm} (h : a < b) (k : b < c) : a < c := List.lt_trans h k
theorem nm_lt_asymm {a b : Nm} (h : a < b) : ¬ b < a := fun k => nm_lt_irrefl a (nm_lt_trans h k)
theorem nm_lt_or (a b : Nm) : a < b ∨ a = b ∨ b < a := by
  by_cases h : a < b
  · exact .inl h
  · by_cases k : b < a
    · exact .inr (.inr k)
    · exact .inr (.inl (List.le_antisymm k h))
/-- a set -/
def Ris (l : List Nm) : Prop := l.Pairwise (· < ·)
theorem Ris.nil : Ris [] := List.Pairwise.nil
/-- rising rows of the same texts are the same -/
theorem Ris.ext : ∀ {l m : List Nm}, Ris l → Ris m → (∀ x, x ∈ l ↔ x ∈ m) → l = m
  | [], [], _, _, _ => rfl
  | [], y :: m, _, _, h => by simpa using (h y).2 (by simp)
  | x :: l, [], _, _, h => by simpa using (h x).1 (by simp)
  | x :: l, y :: m, hl, hm, h => by
    obtain ⟨l1, l2⟩ := List.pairwise_cons.1 hl
    obtain ⟨m1, m2⟩ := List.pairwise_cons.1 hm
    have hxy : x = y := by
      rcases List.mem_cons.1 ((h x).1 (by simp)) with e | hx
      · exact e
      · rcases List.mem_cons.1 ((h y).2 (by simp)) with e | hy
        · exact e.symm
        · exact absurd (m1 x hx) (nm_lt_asymm (l1 y hy))
    subst hxy
    have : l = m := Ris.ext l2 m2 fun z => by
      constructor
      · intro hz
        rcases List.mem_cons.1 ((h z).1 (List.mem_cons_of_mem _ hz)) with e | g
        · subst e; exact absurd (l1 z hz) (nm_lt_irrefl _)
        · exact g
      · intro hz
        rcases List.mem_cons.1 ((h z).2 (List.mem_cons_of_mem _ hz)) with e | g
        · subst e; exact absurd (m1 z hz) (nm_lt_irrefl _)
        · exact g
    rw [this]
/-- the row behind With, as the document goes through it -/
def with1 (s : Nm) : Bool → List Nm → List Nm
  | done, [] => if done then [] else [s]
  | done, x :: r => (if done = false ∧ ¬ x < s then [s] else []) ++ ((if x = s then [] else [x]) ++ with1 s (done || decide (¬ x < s)) r)
def ins (s : Nm) (l : List Nm) : List Nm := with1 s false l
def del (s : Nm) (l : List Nm) : List Nm := l.filter (fun x => decide (x ≠ s))
theorem with1_done (s : Nm) : ∀ l, with1 s true l = del s l
  | [] => rfl
  | x :: r => by
    rw [with1, if_neg (by simp), List.nil_append, Bool.true_or, with1_done s r]
    by_cases h : x = s <;> simp [del, h]
theorem mem_del {s x : Nm} {l : List Nm} : x ∈ del s l ↔ x ∈ l ∧ x ≠ s := by simp [del]
theorem mem_ins (s : Nm) : ∀ (l : List Nm) (x : Nm), x ∈ ins s l ↔ x = s ∨ x ∈ l
  | [], x => by simp [ins, with1]
  | y :: r, x => by
    unfold ins
    rw [with1]
    by_cases h : y < s
    · have hne : y ≠ s := fun e => nm_lt_irrefl s (e ▸ h)
      rw [if_neg (fun e => e.2 h), List.nil_append, if_neg hne, show (false || decide (¬ y < s)) = false by simp [h]]
      have := mem_ins s r x
      unfold ins at this
      simp only [List.singleton_append, List.mem_cons, this]
      constructor
      · rintro (h | h | h)
        · exact .inr (.inl h)
        · exact .inl h
        · exact .inr (.inr h)
      · rintro (h | h | h)
        · exact .inr (.inl h)
        · exact .inl h
        · exact .inr (.inr h)
    · rw [if_pos ⟨rfl, h⟩, show (false || decide (¬ y < s)) = true by simp [h], with1_done]
      by_cases e : y = s
      · subst e
        rw [if_pos rfl, List.nil_append]
        simp only [List.singleton_append, List.mem_cons, mem_del]
        constructor
        · rintro (h | ⟨h, _⟩)
          · exact .inl h
          · exact .inr (.inr h)
        · rintro (h | h | h)
          · exact .inl h
          · exact .inl h
          · by_cases e : x = y
            · exact .inl e
            · exact .inr ⟨h, e⟩
      · rw [if_neg e]
        simp only [List.singleton_append, List.mem_cons, mem_del]
        constructor
        · rintro (h | h | ⟨h, _⟩)
          · exact .inl h
          · exact .inr (.inl h)
          · exact .inr (.inr h)
        · rintro (h | h | h)
          · exact .inl h
          · exact .inr (.inl h)
          · by_cases e : x = s
            · exact .inl e
            · exact .inr (.inr ⟨h, e⟩)
theorem Ris.del {l : List Nm} (h : Ris l) (s : Nm) : Ris (del s l) := h.filter _
theorem Ris.ins (s : Nm) : ∀ {l : List Nm}, Ris l → Ris (ins s l)
  | [], _ => List.pairwise_singleton _ _
  | y :: r, h => by
    obtain ⟨h1, h2⟩ := List.pairwise_cons.1 h
    have ih := Ris.ins s h2
    unfold Go.Proofs.YtcbncdigejjcpaaGreatDoor.ins at ih ⊢
    rw [with1]
    by_cases hy : y < s
    · have hne : y ≠ s := fun e => nm_lt_irrefl s (e ▸ hy)
      rw [if_neg (fun e => e.2 hy), List.nil_append, if_neg hne, show (false || decide (¬ y < s)) = false by simp [hy]]
      refine List.pairwise_cons.2 ⟨fun x hx => ?_, ih⟩
      rcases (mem_ins s r x).1 hx with rfl | hx
      · exact hy
      · exact h1 x hx
    · rw [if_pos ⟨rfl, hy⟩, show (false || decide (¬ y < s)) = true by simp [hy], with1_done]
      by_cases e : y = s
      · subst e
        rw [if_pos rfl, List.nil_append]
        exact List.pairwise_cons.2 ⟨fun x hx => h1 x (mem_del.1 hx).1, Ris.del h2 _⟩
      · rw [if_neg e]
        have hs : s < y := by
          rcases nm_lt_or y s with g | g | g
          · exact absurd g hy
          · exact absurd g e
          · exact g
        refine List.pairwise_cons.2 ⟨fun x hx => ?_, List.pairwise_cons.2 ⟨fun x hx => h1 x (mem_del.1 hx).1, Ris.del h2 _⟩⟩
        rcases List.mem_cons.1 hx with rfl | hx
        · exact hs
        · exact nm_lt_trans hs (h1 x (mem_del.1 hx).1)
/-- the set of a row's texts -/
def insAll (a l : List Nm) : List Nm := l.foldl (fun a s => ins s a) a
def mk (l : List Nm) : List Nm := insAll [] l
theorem mem_insAll : ∀ (l a : List Nm) (x : Nm), x ∈ insAll a l ↔ x ∈ a ∨ x ∈ l
  | [], a, x => by simp [insAll]
  | s :: l, a, x => by
    show x ∈ insAll (ins s a) l ↔ _
    rw [mem_insAll l, mem_ins]
    simp only [List.mem_cons]
    constructor
    · rintro ((h | h) | h)
      · exact .inr (.inl h)
      · exact .inl h
      · exact .inr (.inr h)
    · rintro (h | h | h)
      · exact .inl (.inr h)
      · exact .inl (.inl h)
      · exact .inr h
theorem Ris.insAll : ∀ (l : List Nm) {a : List Nm}, Ris a → Ris (insAll a l)
  | [], _, h => h
  | s :: l, _, h => Ris.insAll l (h.ins s)
/-- what two have -/
def meet (a b : List Nm) : List Nm := a.filter (fun x => decide (x ∈ b))
def less (a b : List Nm) : List Nm := a.filter (fun x => decide (x ∉ b))
theorem mem_less {a b : List Nm} {x : Nm} : x ∈ less a b ↔ x ∈ a ∧ x ∉ b := by simp [less]
theorem Ris.less {a : List Nm} (h : Ris a) (b : List Nm) : Ris (less a b) := h.filter _
end Go.Proofs.YtcbncdigejjcpaaGreatDoor

namespace Go.Proofs.YtcbncdigejjcpaaGreatDoor

/-- a text that is told, and which of both have it -/
abbrev Told := Nm × Bool × Bool
/-- what is told (n: room) -/
def side : Nat → List Nm → List Nm → List Told
  | 0, _, _ => []
  | _ + 1, [], [] => []
  | n + 1, x :: a, [] => (x, true, false) :: side n a []
  | n + 1, [], y :: b => (y, false, true) :: side n [] b
  | n + 1, x :: a, y :: b => if x < y then (x, true, false) :: side n a (y :: b) else if y < x then (y, false, true) :: side n (x :: a) b else (y, true, true) :: side n a b
structure Spec (a b : List Nm) (R : List Told) : Prop where
  told : ∀ t ∈ R, (t.1 ∈ a ∨ t.1 ∈ b) ∧ t.2.1 = decide (t.1 ∈ a) ∧ t.2.2 = decide (t.1 ∈ b)
  all : ∀ s, s ∈ a ∨ s ∈ b → s ∈ R.map (·.1)
  ris : Ris (R.map (·.1))
theorem Spec.cons {a b a' b' : List Nm} {s : Nm} {X Y : Bool} {R : List Told} (S : Spec a' b' R) (hX : a = if X = true then s :: a' else a') (hY : b = if Y = true then s :: b' else b') (hXY : X = true ∨ Y = true)
    (h1 : ∀ z ∈ a', s < z) (h2 : ∀ z ∈ b', s < z) : Spec a b ((s, X, Y) :: R) := by
  have n1 : s ∉ a' := fun h => nm_lt_irrefl s (h1 s h)
  have n2 : s ∉ b' := fun h => nm_lt_irrefl s (h2 s h)
  have ma : ∀ z, z ∈ a ↔ (X = true ∧ z = s) ∨ z ∈ a' := fun z => by rw [hX]; cases X <;> simp
  have mb : ∀ z, z ∈ b ↔ (Y = true ∧ z = s) ∨ z ∈ b' := fun z => by rw [hY]; cases Y <;> simp
  have up : ∀ t ∈ R, s < t.1 := fun t ht => by
    rcases (S.told t ht).1 with h | h
    · exact h1 _ h
    · exact h2 _ h
  refine ⟨fun t ht => ?_, fun z hz => ?_, ?_⟩
  · rcases List.mem_cons.1 ht with rfl | ht
    · refine ⟨?_, ?_, ?_⟩
      · rcases hXY with h | h
        · exact .inl ((ma s).2 (.inl ⟨h, rfl⟩))
        · exact .inr ((mb s).2 (.inl ⟨h, rfl⟩))
      · show X = decide (s ∈ a)
        cases X with
        | true => exact (decide_eq_true ((ma s).2 (.inl ⟨rfl, rfl⟩))).symm
        | false => exact (decide_eq_false (fun h => by
            rcases (ma s).1 h with h | h
            · exact absurd h.1 (by decide)
            · exact n1 h)).symm
      · show Y = decide (s ∈ b)
        cases Y with
        | true => exact (decide_eq_true ((mb s).2 (.inl ⟨rfl, rfl⟩))).symm
        | false => exact (decide_eq_false (fun h => by
            rcases (mb s).1 h with h | h
            · exact absurd h.1 (by decide)
            · exact n2 h)).symm
    · obtain ⟨t1, t2, t3⟩ := S.told t ht
      have hne : t.1 ≠ s := fun e => nm_lt_irrefl s (by have := up t ht; rwa [e] at this)
      refine ⟨?_, ?_, ?_⟩
      · rcases t1 with h | h
        · exact .inl ((ma _).2 (.inr h))
        · exact .inr ((mb _).2 (.inr h))
      · rw [t2, decide_eq_decide, ma]
        exact ⟨fun h => .inr h, fun h => h.elim (fun h => absurd h.2 hne) id⟩
      · rw [t3, decide_eq_decide, mb]
        exact ⟨fun h => .inr h, fun h => h.elim (fun h => absurd h.2 hne) id⟩
  · rw [List.map_cons, List.mem_cons]
    have : z = s ∨ z ∈ a' ∨ z ∈ b' := by
      rcases hz with h | h
      · rcases (ma z).1 h with h | h
        · exact .inl h.2
        · exact .inr (.inl h)
      · rcases (mb z).1 h with h | h
        · exact .inl h.2
        · exact .inr (.inr h)
    rcases this with h | h
    · exact .inl h
    · exact .inr (S.all z h)
  · rw [List.map_cons]
    refine List.pairwise_cons.2 ⟨fun z hz => ?_, S.ris⟩
    obtain ⟨t, ht, rfl⟩ := List.mem_map.1 hz
    exact up t ht
theorem above {x y : Nm} {b : List Nm} (h : x < y) (hb : ∀ z ∈ b, y < z) : ∀ z ∈ y :: b, x < z := fun z hz => by
  rcases List.mem_cons.1 hz with rfl | hz
  · exact h
  · exact nm_lt_trans h (hb z hz)
theorem side_spec : ∀ (n : Nat) (a b : List Nm), a.length + b.length ≤ n → Ris a → Ris b → Spec a b (side n a b)
  | 0, [], [], _, _, _ => ⟨fun t ht => by simp [side] at ht, fun s hs => by simp at hs, Ris.nil⟩
  | 0, x :: a, _, h, _, _ => by simp at h
  | 0, [], y :: b, h, _, _ => by simp at h
  | n + 1, [], [], _, _, _ => ⟨fun t ht => by simp [side] at ht, fun s hs => by simp at hs, Ris.nil⟩
  | n + 1, x :: a, [], h, ha, hb => by
    obtain ⟨a1, a2⟩ := List.pairwise_cons.1 ha
    exact (side_spec n a [] (by simp at h ⊢; omega) a2 hb).cons (by simp) (by simp) (.inl rfl) a1 (fun z hz => by simp at hz)
  | n + 1, [], y :: b, h, ha, hb => by
    obtain ⟨b1, b2⟩ := List.pairwise_cons.1 hb
    exact (side_spec n [] b (by simp at h ⊢; omega) ha b2).cons (by simp) (by simp) (.inr rfl) (fun z hz => by simp at hz) b1
  | n + 1, x :: a, y :: b, h, ha, hb => by
    obtain ⟨a1, a2⟩ := List.pairwise_cons.1 ha
    obtain ⟨b1, b2⟩ := List.pairwise_cons.1 hb
    rw [side]
    by_cases h1 : x < y
    · rw [if_pos h1]
      exact (side_spec n a (y :: b) (by simp at h ⊢; omega) a2 hb).cons (by simp) (by simp) (.inl rfl) a1 (above h1 b1)
    · rw [if_neg h1]
      by_cases h2 : y < x
      · rw [if_pos h2]
        exact (side_spec n (x :: a) b (by simp at h ⊢; omega) ha b2).cons (by simp) (by simp) (.inr rfl) (above h2 a1) b1
      · rw [if_neg h2]
        obtain rfl : x = y := by
          rcases nm_lt_or x y with g | g | g
          · exact absurd g h1
          · exact g
          · exact absurd g h2
        exact (side_spec n a b (by simp at h ⊢; omega) a2 b2).cons (by simp) (by simp) (.inl rfl) a1 b1
/-- those that are wanted -/
def pickd (f : Bool → Bool → Bool) (T : List Told) : List Nm := (T.filter (fun t => f t.2.1 t.2.2)).map (·.1)
theorem pickd_yes {f : Bool → Bool → Bool} {T : List Told} {s : Nm} {X Y : Bool} (h : f X Y = true) : pickd f (T ++ [(s, X, Y)]) = pickd f T ++ [s] := by simp [pickd, h]
theorem pickd_no {f : Bool → Bool → Bool} {T : List Told} {s : Nm} {X Y : Bool} (h : f X Y = false) : pickd f (T ++ [(s, X, Y)]) = pickd f T := by simp [pickd, h]
theorem pickd_len (f : Bool → Bool → Bool) (T : List Told) : (pickd f T).length ≤ T.length := by
  unfold pickd
  rw [List.length_map]
  exact List.length_filter_le _ _
theorem Spec.mem {a b : List Nm} {R : List Told} (S : Spec a b R) (f : Bool → Bool → Bool) (s : Nm) : s ∈ pickd f R ↔ (s ∈ a ∨ s ∈ b) ∧ f (decide (s ∈ a)) (decide (s ∈ b)) = true := by
  unfold pickd
  rw [List.mem_map]
  constructor
  · rintro ⟨t, ht, rfl⟩
    obtain ⟨h1, h2⟩ := List.mem_filter.1 ht
    obtain ⟨t1, t2, t3⟩ := S.told t h1
    refine ⟨t1, ?_⟩
    rw [← t2, ← t3]
    exact h2
  · rintro ⟨h1, h2⟩
    obtain ⟨t, ht, e⟩ := List.mem_map.1 (S.all s h1)
    obtain ⟨t1, t2, t3⟩ := S.told t ht
    refine ⟨t, List.mem_filter.2 ⟨ht, ?_⟩, e⟩
    show f t.2.1 t.2.2 = true
    rw [t2, t3]
    have e' : t.1 = s := e
    rw [e']
    exact h2
theorem Spec.pick {a b : List Nm} {R : List Told} (S : Spec a b R) (f : Bool → Bool → Bool) : Ris (pickd f R) := S.ris.sublist (List.filter_sublist.map _)
theorem Spec.union {a b : List Nm} {R : List Told} (S : Spec a b R) (ha : Ris a) : pickd (fun x y => x || y) R = insAll a b := (S.pick _).ext (Ris.insAll b ha) fun s => by
  rw [S.mem, mem_insAll]; simp
theorem Spec.less {a b : List Nm} {R : List Told} (S : Spec a b R) (ha : Ris a) : pickd (fun x y => x && !y) R = less a b := (S.pick _).ext (ha.less b) fun s => by
  rw [S.mem, mem_less]; simp
  exact fun h _ => .inl h
end Go.Proofs.YtcbncdigejjcpaaGreatDoor
