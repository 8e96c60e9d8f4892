/- Sets as rising rows of texts: plain mathematics. -/
import Derived.WalkKit
namespace Go.Proofs.YtmjmdfenkhmfbabDoor

abbrev Nm := List UInt8
theorem nm_lt_irrefl (a : Nm) : ¬ a < a := List.lt_irrefl a
theorem nm_lt_trans {a b c : Nm} (h : a < b) (k : b < c) : a < c := List.lt_trans h k
theorem nm_lt_asymm {a b : Nm} (h : a < b) : ¬ b < a := fun k => nm_lt_irrefl a (nm_lt_trans h k)
theorem nm_lt_or (a b : Nm) : a < b ∨ a = b ∨ b < a := by
  by_cases h : a < b
  · exact .inl h
  · by_cases k : b < a
    · exact .inr (.inr k)
    · exact .inr (.inl (List.le_antisymm k h))
/-- a set -/
def Ris (l : List Nm) : Prop := l.Pairwise (· < ·)
theorem Ris.nil : Ris [] := List.Pairwise.nil
/-- rising rows of the same texts are the same -/
theorem Ris.ext : ∀ {l m : List Nm}, Ris l → Ris m → (∀ x, x ∈ l ↔ x ∈ m) → l = m
  | [], [], _, _, _ => rfl
  | [], y :: m, _, _, h => by simpa using (h y).2 (by simp)
  | x :: l, [], _, _, h => by simpa using (h x).1 (by simp)
  | x :: l, y :: m, hl, hm, h => by
    obtain ⟨l1, l2⟩ := List.pairwise_cons.1 hl
    obtain ⟨m1, m2⟩ := List.pairwise_cons.1 hm
    have hxy : x = y := by
      rcases List.mem_cons.1 ((h x).1 (by simp)) with e | hx
      · exact e
      · rcases List.mem_cons.1 ((h y).2 (by simp)) with e | hy
        · exact e.symm
        · exact absurd (m1 x hx) (nm_lt_asymm (l1 y hy))
    subst hxy
    have : l = m := Ris.ext l2 m2 fun z => by
      constructor
      · intro hz
        rcases List.mem_cons.1 ((h z).1 (List.mem_cons_of_mem _ hz)) with e | g
        · subst e; exact absurd (l1 z hz) (nm_lt_irrefl _)
        · exact g
      · intro hz
        rcases List.mem_cons.1 ((h z).2 (List.mem_cons_of_mem _ hz)) with e | g
        · subst e; exact absurd (m1 z hz) (nm_lt_irrefl _)
        · exact g
    rw [this]
/-- the row behind With, as the document goes through it -/
def with1 (s : Nm) : Bool → List Nm → List Nm
  | done, [] => if done then [] else [s]
  | done, x :: r => (if done = false ∧ ¬ x < s then [s] else []) ++ ((if x = s then [] else [x]) ++ with1 s (done || decide (¬ x < s)) r)
def ins (s : Nm) (l : List Nm) : List Nm := with1 s false l
def del (s : Nm) (l : List Nm) : List Nm := l.filter (fun x => decide (x ≠ s))
theorem with1_done (s : Nm) : ∀ l, with1 s true l = del s l
  | [] => rfl
  | x :: r => by
    rw [with1, if_neg (by simp), List.nil_append, Bool.true_or, with1_done s r]
    by_cases h : x = s <;> simp [del, h]
theorem mem_del {s x : Nm} {l : List Nm} : x ∈ del s l ↔ x ∈ l ∧ x ≠ s := by simp [del]
theorem mem_ins (s : Nm) : ∀ (l : List Nm) (x : Nm), x ∈ ins s l ↔ x = s ∨ x ∈ l
  | [], x => by simp [ins, with1]
  | y :: r, x => by
    unfold ins
    rw [with1]
    by_cases h : y < s
    · have hne : y ≠ s := fun e => nm_lt_irrefl s (e ▸ h)
      rw [if_neg (fun e => e.2 h), List.nil_append, if_neg hne, show (false || decide (¬ y < s)) = false by simp [h]]
      have := mem_ins s r x
      unfold ins at this
      simp only [List.singleton_append, List.mem_cons, this]
      constructor
      · rintro (h | h | h)
        · exact .inr (.inl h)
        · exact .inl h
        · exact .inr (.inr h)
      · rintro (h | h | h)
        · exact .inr (.inl h)
        · exact .inl h
        · exact .inr (.inr h)
    · rw [if_pos ⟨rfl, h⟩, show (false || decide (¬ y < s)) = true by simp [h], with1_done]
      by_cases e : y = s
      · subst e
        rw [if_pos rfl, List.nil_append]
        simp only [List.singleton_append, List.mem_cons, mem_del]
        constructor
        · rintro (h | ⟨h, _⟩)
          · exact .inl h
          · exact .inr (.inr h)
        · rintro (h | h | h)
          · exact .inl h
          · exact .inl h
          · by_cases e : x = y
            · exact .inl e
            · exact .inr ⟨h, e⟩
      · rw [if_neg e]
        simp only [List.singleton_append, List.mem_cons, mem_del]
        constructor
        · rintro (h | h | ⟨h, _⟩)
          · exact .inl h
          · exact .inr (.inl h)
          · exact .inr (.inr h)
        · rintro (h | h | h)
          · exact .inl h
          · exact .inr (.inl h)
          · by_cases e : x = s
            · exact .inl e
            · exact .inr (.inr ⟨h, e⟩)
theorem Ris.del {l : List Nm} (h : Ris l) (s : Nm) : Ris (del s l) := h.filter _
theorem Ris.ins (s : Nm) : ∀ {l : List Nm}, Ris l → Ris (ins s l)
  | [], _ => List.pairwise_singleton _ _
  | y :: r, h => by
    obtain ⟨h1, h2⟩ := List.pairwise_cons.1 h
    have ih := Ris.ins s h2
    unfold Go.Proofs.YtmjmdfenkhmfbabDoor.ins at ih ⊢
    rw [with1]
    by_cases hy : y < s
    · have hne : y ≠ s := fun e => nm_lt_irrefl s (e ▸ hy)
      rw [if_neg (fun e => e.2 hy), List.nil_append, if_neg hne, show (false || decide (¬ y < s)) = false by simp [hy]]
      refine List.pairwise_cons.2 ⟨fun x hx => ?_, ih⟩
      rcases (mem_ins s r x).1 hx with rfl | hx
      · exact hy
      · exact h1 x hx
    · rw [if_pos ⟨rfl, hy⟩, show (false || decide (¬ y < s)) = true by simp [hy], with1_done]
      by_cases e : y = s
      · subst e
        rw [if_pos rfl, List.nil_append]
        exact List.pairwise_cons.2 ⟨fun x hx => h1 x (mem_del.1 hx).1, Ris.del h2 _⟩
      · rw [if_neg e]
        have hs : s < y := by
          rcases nm_lt_or y s with g | g | g
          · exact absurd g hy
          · exact absurd g e
          · exact g
        refine List.pairwise_cons.2 ⟨fun x hx => ?_, List.pairwise_cons.2 ⟨fun x hx => h1 x (mem_del.1 hx).1, Ris.del h2 _⟩⟩
        rcases List.mem_cons.1 hx with rfl | hx
        · exact hs
        · exact nm_lt_trans hs (h1 x (mem_del.1 hx).1)
/-- the set of a row's texts -/
def insAll (a l : List Nm) : List Nm := l.foldl (fun a s => ins s a) a
def mk (l : List Nm) : List Nm := insAll [] l
theorem insAll_snoc (a l : List Nm) (s : Nm) : insAll a (l ++ [s]) = ins s (insAll a l) := by simp [insAll]
theorem insAll_take {a l : List Nm} {i : Nat} (h : i < l.length) : insAll a (l.take (i + 1)) = ins l[i] (insAll a (l.take i)) := by
  rw [List.take_succ_eq_append_getElem h, insAll_snoc]
theorem mem_insAll : ∀ (l a : List Nm) (x : Nm), x ∈ insAll a l ↔ x ∈ a ∨ x ∈ l
  | [], a, x => by simp [insAll]
  | s :: l, a, x => by
    show x ∈ insAll (ins s a) l ↔ _
    rw [mem_insAll l, mem_ins]
    simp only [List.mem_cons]
    constructor
    · rintro ((h | h) | h)
      · exact .inr (.inl h)
      · exact .inl h
      · exact .inr (.inr h)
    · rintro (h | h | h)
      · exact .inl (.inr h)
      · exact .inl (.inl h)
      · exact .inr h
theorem Ris.insAll : ∀ (l : List Nm) {a : List Nm}, Ris a → Ris (insAll a l)
  | [], _, h => h
  | s :: l, _, h => Ris.insAll l (h.ins s)
theorem mem_mk (l : List Nm) (x : Nm) : x ∈ mk l ↔ x ∈ l := by rw [mk, mem_insAll]; simp
theorem Ris.mk (l : List Nm) : Ris (mk l) := Ris.insAll l Ris.nil
theorem mk_self {l : List Nm} (h : Ris l) : mk l = l := (Ris.mk l).ext h (mem_mk l)
/-- what two have -/
def meet (a b : List Nm) : List Nm := a.filter (fun x => decide (x ∈ b))
def less (a b : List Nm) : List Nm := a.filter (fun x => decide (x ∉ b))
theorem mem_meet {a b : List Nm} {x : Nm} : x ∈ meet a b ↔ x ∈ a ∧ x ∈ b := by simp [meet]
theorem mem_less {a b : List Nm} {x : Nm} : x ∈ less a b ↔ x ∈ a ∧ x ∉ b := by simp [less]
theorem Ris.meet {a : List Nm} (h : Ris a) (b : List Nm) : Ris (meet a b) := h.filter _
theorem Ris.less {a : List Nm} (h : Ris a) (b : List Nm) : Ris (less a b) := h.filter _
theorem len_ins (s : Nm) (l : List Nm) : (ins s l).length ≤ l.length + 1 := by
  have : ∀ (b : Bool) (l : List Nm), (with1 s b l).length ≤ l.length + 1 ∧ (b = true → (with1 s b l).length ≤ l.length) := by
    intro b l
    induction l generalizing b with
    | nil => cases b <;> simp [with1]
    | cons x r ih =>
      have h1 := ih (b || decide (¬ x < s))
      rw [with1]
      cases b with
      | true =>
        simp only [Bool.true_or] at h1
        have := h1.2 trivial
        simp only [Bool.true_eq_false, false_and, if_false, List.nil_append, Bool.true_or, List.length_append, List.length_cons]
        split <;> simp <;> omega
      | false =>
        by_cases hx : x < s
        · simp only [hx, not_true_eq_false, decide_false, Bool.or_false] at h1
          have := h1.1
          simp only [hx, not_true_eq_false, and_false, if_false, List.nil_append, decide_false, Bool.or_false, List.length_append, List.length_cons]
          split <;> simp <;> omega
        · simp only [hx, not_false_eq_true, decide_true, Bool.or_true] at h1
          have := h1.2 trivial
          simp only [hx, not_false_eq_true, and_self, if_true, decide_true, Bool.or_true, List.length_append, List.length_cons, List.length_nil]
          split <;> simp <;> omega
  exact (this false l).1
theorem len_insAll : ∀ (l a : List Nm), (insAll a l).length ≤ a.length + l.length
  | [], a => by simp [insAll]
  | s :: l, a => by
    show (insAll (ins s a) l).length ≤ _
    have h1 := len_insAll l (ins s a)
    have h2 := len_ins s a
    simp; omega
theorem len_mk (l : List Nm) : (mk l).length ≤ l.length := by have := len_insAll l []; simpa [mk] using this
theorem len_meet (a b : List Nm) : (meet a b).length ≤ a.length := List.length_filter_le _ _
theorem len_less (a b : List Nm) : (less a b).length ≤ a.length := List.length_filter_le _ _
theorem len_del (s : Nm) (l : List Nm) : (del s l).length ≤ l.length := List.length_filter_le _ _
/-- what follows -/
theorem union_comm {a b : List Nm} (ha : Ris a) (hb : Ris b) : insAll a b = insAll b a := (Ris.insAll b ha).ext (Ris.insAll a hb) fun x => by rw [mem_insAll, mem_insAll]; exact or_comm
theorem meet_comm {a b : List Nm} (ha : Ris a) (hb : Ris b) : meet a b = meet b a := (ha.meet b).ext (hb.meet a) fun x => by rw [mem_meet, mem_meet]; exact and_comm
theorem less_meet {a : List Nm} (ha : Ris a) (b : List Nm) : insAll (less a b) (meet a b) = a := (Ris.insAll _ (ha.less b)).ext ha fun x => by
  rw [mem_insAll, mem_less, mem_meet]
  constructor
  · rintro (h | h)
    · exact h.1
    · exact h.1
  · intro h
    by_cases k : x ∈ b
    · exact .inr ⟨h, k⟩
    · exact .inl ⟨h, k⟩
theorem meet_none (a b : List Nm) : meet (less a b) (meet a b) = [] := List.eq_nil_iff_forall_not_mem.2 fun x hx => by
  obtain ⟨h1, h2⟩ := mem_meet.1 hx
  exact (mem_less.1 h1).2 (mem_meet.1 h2).2
theorem less_none {a b : List Nm} : less a b = [] ↔ ∀ x ∈ a, x ∈ b := by
  rw [List.eq_nil_iff_forall_not_mem]
  constructor
  · intro h x hx
    by_cases k : x ∈ b
    · exact k
    · exact absurd (mem_less.2 ⟨hx, k⟩) (h x)
  · intro h x hx
    obtain ⟨h1, h2⟩ := mem_less.1 hx
    exact h2 (h x h1)
theorem meet_all {a b : List Nm} : meet a b = a ↔ ∀ x ∈ a, x ∈ b := by
  unfold meet
  rw [List.filter_eq_self]
  simp
theorem union_assoc {a b c : List Nm} (ha : Ris a) : insAll (insAll a b) c = insAll a (insAll b c) := (Ris.insAll _ (Ris.insAll _ ha)).ext (Ris.insAll _ ha) fun x => by
  rw [mem_insAll, mem_insAll, mem_insAll, mem_insAll]; exact or_assoc
theorem meet_assoc {a b c : List Nm} (ha : Ris a) : meet (meet a b) c = meet a (meet b c) := ((ha.meet b).meet c).ext (ha.meet _) fun x => by
  rw [mem_meet, mem_meet, mem_meet, mem_meet]; exact and_assoc
theorem meet_union {a b c : List Nm} (ha : Ris a) : meet a (insAll b c) = insAll (meet a b) (meet a c) := (ha.meet _).ext (Ris.insAll _ (ha.meet b)) fun x => by
  rw [mem_meet, mem_insAll, mem_insAll, mem_meet, mem_meet]; exact and_or_left

end Go.Proofs.YtmjmdfenkhmfbabDoor
