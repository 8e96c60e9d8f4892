/- Model, CrcBits, VModel, Burst, Core, Mem, Same, Own. -/
import Derived.WalkKit
import Derived.Test.YtppgifaegnmciaaDoorProg
import Derived.Below
import Derived.RowKit
import Derived.Laws.OwnMore
import Derived.Lib.OthersKept
import Derived.BigQuiet
import Derived.Sort.Walk0
import Derived.Deep.RegionLaw
namespace Go.Proofs.YtppgifaegnmciaaDoor

abbrev Nm := List UInt8
theorem nm_lt_irrefl (a : Nm) : ¬ a < a := List.lt_irrefl a
theorem nm_lt_trans {a b c : Nm} (h : a < b) (k : b < c) : a < c := List.lt_trans h k
theorem nm_lt_asymm {a b : Nm} (h : a < b) : ¬ b < a := fun k => nm_lt_irrefl a (nm_lt_trans h k)
theorem nm_lt_or (a b : Nm) : a < b ∨ a = b ∨ b < a := by
  by_cases h : a < b
  · exact .inl h
  · by_cases k : b < a
    · exact .inr (.inr k)
    · exact .inr (.inl (List.le_antisymm k h))
/-- a set -/
def Ris (l : List Nm) : Prop := l.Pairwise (· < ·)
theorem Ris.nil : Ris [] := List.Pairwise.nil
/-- rising rows of the same texts are the same -/
theorem Ris.ext : ∀ {l m : List Nm}, Ris l → Ris m → (∀ x, x ∈ l ↔ x ∈ m) → l = m
  | [], [], _, _, _ => rfl
  | [], y :: m, _, _, h => by simpa using (h y).2 (by simp)
  | x :: l, [], _, _, h => by simpa using (h x).1 (by simp)
  | x :: l, y :: m, hl, hm, h => by
    obtain ⟨l1, l2⟩ := List.pairwise_cons.1 hl
    obtain ⟨m1, m2⟩ := List.pairwise_cons.1 hm
    have hxy : x = y := by
      rcases List.mem_cons.1 ((h x).1 (by simp)) with e | hx
      · exact e
      · rcases List.mem_cons.1 ((h y).2 (by simp)) with e | hy
        · exact e.symm
        · exact absurd (m1 x hx) (nm_lt_asymm (l1 y hy))
    subst hxy
    have : l = m := Ris.ext l2 m2 fun z => by
      constructor
      · intro hz
        rcases List.mem_cons.1 ((h z).1 (List.mem_cons_of_mem _ hz)) with e | g
        · subst e; exact absurd (l1 z hz) (nm_lt_irrefl _)
        · exact g
      · intro hz
        rcases List.mem_cons.1 ((h z).2 (List.mem_cons_of_mem _ hz)) with e | g
        · subst e; exact absurd (m1 z hz) (nm_lt_irrefl _)
        · exact g
    rw [this]
/-- the row behind With, as the document goes through it -/
def with1 (s : Nm) : Bool → List Nm → List Nm
  | done, [] => if done then [] else [s]
  | done, x :: r => (if done = false ∧ ¬ x < s then [s] else []) ++ ((if x = s then [] else [x]) ++ with1 s (done || decide (¬ x < s)) r)
def ins (s : Nm) (l : List Nm) : List Nm := with1 s false l
def del (s : Nm) (l : List Nm) : List Nm := l.filter (fun x => decide (x ≠ s))
theorem with1_done (s : Nm) : ∀ l, with1 s true l = del s l
  | [] => rfl
  | x :: r => by
    rw [with1, if_neg (by simp), List.nil_append, Bool.true_or, with1_done s r]
    by_cases h : x = s <;> simp [del, h]
theorem mem_del {s x : Nm} {l : List Nm} : x ∈ del s l ↔ x ∈ l ∧ x ≠ s := by simp [del]
theorem mem_ins (s : Nm) : ∀ (l : List Nm) (x : Nm), x ∈ ins s l ↔ x = s ∨ x ∈ l
  | [], x => by simp [ins, with1]
  | y :: r, x => by
    unfold ins
    rw [with1]
    by_cases h : y < s
    · have hne : y ≠ s := fun e => nm_lt_irrefl s (e ▸ h)
      rw [if_neg (fun e => e.2 h), List.nil_append, if_neg hne, show (false || decide (¬ y < s)) = false by simp [h]]
      have := mem_ins s r x
      unfold ins at this
      simp only [List.singleton_append, List.mem_cons, this]
      constructor
      · rintro (h | h | h)
        · exact .inr (.inl h)
        · exact .inl h
        · exact .inr (.inr h)
      · rintro (h | h | h)
        · exact .inr (.inl h)
        · exact .inl h
        · exact .inr (.inr h)
    · rw [if_pos ⟨rfl, h⟩, show (false || decide (¬ y < s)) = true by simp [h], with1_done]
      by_cases e : y = s
      · subst e
        rw [if_pos rfl, List.nil_append]
        simp only [List.singleton_append, List.mem_cons, mem_del]
        constructor
        · rintro (h | ⟨h, _⟩)
          · exact .inl h
          · exact .inr (.inr h)
        · rintro (h | h | h)
          · exact .inl h
          · exact .inl h
          · by_cases e : x = y
            · exact .inl e
            · exact .inr ⟨h, e⟩
      · rw [if_neg e]
        simp only [List.singleton_append, List.mem_cons, mem_del]
        constructor
        · rintro (h | h | ⟨h, _⟩)
          · exact .inl h
          · exact .inr (.inl h)
          · exact .inr (.inr h)
        · rintro (h | h | h)
          · exact .inl h
          · exact .inr (.inl h)
          · by_cases e : x = s
            · exact .inl e
            · exact .inr (.inr ⟨h, e⟩)
theorem Ris.del {l : List Nm} (h : Ris l) (s : Nm) : Ris (del s l) := h.filter _
theorem Ris.ins (s : Nm) : ∀ {l : List Nm}, Ris l → Ris (ins s l)
  | [], _ => List.pairwise_singleton _ _
  | y :: r, h => by
    obtain ⟨h1, h2⟩ := List.pairwise_cons.1 h
    have ih := Ris.ins s h2
    unfold Go.Proofs.YtppgifaegnmciaaDoor.ins at ih ⊢
    rw [with1]
    by_cases hy : y < s
    · have hne : y ≠ s := fun e => nm_lt_irrefl s (e ▸ hy)
      rw [if_neg (fun e => e.2 hy), List.nil_append, if_neg hne, show (false || decide (¬ y < s)) = false by simp [hy]]
      refine List.pairwise_cons.2 ⟨fun x hx => ?_, ih⟩
      rcases (mem_ins s r x).1 hx with rfl | hx
      · exact hy
      · exact h1 x hx
    · rw [if_pos ⟨rfl, hy⟩, show (false || decide (¬ y < s)) = true by simp [hy], with1_done]
      by_cases e : y = s
      · subst e
        rw [if_pos rfl, List.nil_append]
        exact List.pairwise_cons.2 ⟨fun x hx => h1 x (mem_del.1 hx).1, Ris.del h2 _⟩
      · rw [if_neg e]
        have hs : s < y := by
          rcases nm_lt_or y s with g | g | g
          · exact absurd g hy
          · exact absurd g e
          · exact g
        refine List.pairwise_cons.2 ⟨fun x hx => ?_, List.pairwise_cons.2 ⟨fun x hx => h1 x (mem_del.1 hx).1, Ris.del h2 _⟩⟩
        rcases List.mem_cons.1 hx with rfl | hx
        · exact hs
        · exact nm_lt_trans hs (h1 x (mem_del.1 hx).1)
/-- the set of a row's texts -/
def insAll (a l : List Nm) : List Nm := l.foldl (fun a s => ins s a) a
def mk (l : List Nm) : List Nm := insAll [] l
theorem insAll_snoc (a l : List Nm) (s : Nm) : insAll a (l ++ [s]) = ins s (insAll a l) := by simp [insAll]
theorem insAll_take {a l : List Nm} {i : Nat} (h : i < l.length) : insAll a (l.take (i + 1)) = ins l[i] (insAll a (l.take i)) := by
  rw [List.take_succ_eq_append_getElem h, insAll_snoc]
theorem mem_insAll : ∀ (l a : List Nm) (x : Nm), x ∈ insAll a l ↔ x ∈ a ∨ x ∈ l
  | [], a, x => by simp [insAll]
  | s :: l, a, x => by
    show x ∈ insAll (ins s a) l ↔ _
    rw [mem_insAll l, mem_ins]
    simp only [List.mem_cons]
    constructor
    · rintro ((h | h) | h)
      · exact .inr (.inl h)
      · exact .inl h
      · exact .inr (.inr h)
    · rintro (h | h | h)
      · exact .inl (.inr h)
      · exact .inl (.inl h)
      · exact .inr h
theorem Ris.insAll : ∀ (l : List Nm) {a : List Nm}, Ris a → Ris (insAll a l)
  | [], _, h => h
  | s :: l, _, h => Ris.insAll l (h.ins s)
theorem mem_mk (l : List Nm) (x : Nm) : x ∈ mk l ↔ x ∈ l := by rw [mk, mem_insAll]; simp
theorem Ris.mk (l : List Nm) : Ris (mk l) := Ris.insAll l Ris.nil
theorem mk_self {l : List Nm} (h : Ris l) : mk l = l := (Ris.mk l).ext h (mem_mk l)
/-- what two have -/
def meet (a b : List Nm) : List Nm := a.filter (fun x => decide (x ∈ b))
def less (a b : List Nm) : List Nm := a.filter (fun x => decide (x ∉ b))
theorem mem_meet {a b : List Nm} {x : Nm} : x ∈ meet a b ↔ x ∈ a ∧ x ∈ b := by simp [meet]
theorem mem_less {a b : List Nm} {x : Nm} : x ∈ less a b ↔ x ∈ a ∧ x ∉ b := by simp [less]
theorem Ris.meet {a : List Nm} (h : Ris a) (b : List Nm) : Ris (meet a b) := h.filter _
theorem Ris.less {a : List Nm} (h : Ris a) (b : List Nm) : Ris (less a b) := h.filter _
theorem len_ins (s : Nm) (l : List Nm) : (ins s l).length ≤ l.length + 1 := by
  have : ∀ (b : Bool) (l : List Nm), (with1 s b l).length ≤ l.length + 1 ∧ (b = true → (with1 s b l).length ≤ l.length) := by
    intro b l
    induction l generalizing b with
    | nil => cases b <;> simp [with1]
    | cons x r ih =>
      have h1 := ih (b || decide (¬ x < s))
      rw [with1]
      cases b with
      | true =>
        simp only [Bool.true_or] at h1
        have := h1.2 trivial
        simp only [Bool.true_eq_false, false_and, if_false, List.nil_append, Bool.true_or, List.length_append, List.length_cons]
        split <;> simp <;> omega
      | false =>
        by_cases hx : x < s
        · simp only [hx, not_true_eq_false, decide_false, Bool.or_false] at h1
          have := h1.1
          simp only [hx, not_true_eq_false, and_false, if_false, List.nil_append, decide_false, Bool.or_false, List.length_append, List.length_cons]
          split <;> simp <;> omega
        · simp only [hx, not_false_eq_true, decide_true, Bool.or_true] at h1
          have := h1.2 trivial
          simp only [hx, not_false_eq_true, and_self, if_true, decide_true, Bool.or_true, List.length_append, List.length_cons, List.length_nil]
          split <;> simp <;> omega
  exact (this false l).1
theorem len_insAll : ∀ (l a : List Nm), (insAll a l).length ≤ a.length + l.length
  | [], a => by simp [insAll]
  | s :: l, a => by
    show (insAll (ins s a) l).length ≤ _
    have h1 := len_insAll l (ins s a)
    have h2 := len_ins s a
    simp; omega
theorem len_mk (l : List Nm) : (mk l).length ≤ l.length := by have := len_insAll l []; simpa [mk] using this
theorem len_meet (a b : List Nm) : (meet a b).length ≤ a.length := List.length_filter_le _ _
theorem len_less (a b : List Nm) : (less a b).length ≤ a.length := List.length_filter_le _ _
theorem len_del (s : Nm) (l : List Nm) : (del s l).length ≤ l.length := List.length_filter_le _ _
/-- what follows -/
theorem union_comm {a b : List Nm} (ha : Ris a) (hb : Ris b) : insAll a b = insAll b a := (Ris.insAll b ha).ext (Ris.insAll a hb) fun x => by rw [mem_insAll, mem_insAll]; exact or_comm
theorem meet_comm {a b : List Nm} (ha : Ris a) (hb : Ris b) : meet a b = meet b a := (ha.meet b).ext (hb.meet a) fun x => by rw [mem_meet, mem_meet]; exact and_comm
theorem less_meet {a : List Nm} (ha : Ris a) (b : List Nm) : insAll (less a b) (meet a b) = a := (Ris.insAll _ (ha.less b)).ext ha fun x => by
  rw [mem_insAll, mem_less, mem_meet]
  constructor
  · rintro (h | h)
    · exact h.1
    · exact h.1
  · intro h
    by_cases k : x ∈ b
    · exact .inr ⟨h, k⟩
    · exact .inl ⟨h, k⟩
theorem meet_none (a b : List Nm) : meet (less a b) (meet a b) = [] := List.eq_nil_iff_forall_not_mem.2 fun x hx => by
  obtain ⟨h1, h2⟩ := mem_meet.1 hx
  exact (mem_less.1 h1).2 (mem_meet.1 h2).2
theorem less_none {a b : List Nm} : less a b = [] ↔ ∀ x ∈ a, x ∈ b := by
  rw [List.eq_nil_iff_forall_not_mem]
  constructor
  · intro h x hx
    by_cases k : x ∈ b
    · exact k
    · exact absurd (mem_less.2 ⟨hx, k⟩) (h x)
  · intro h x hx
    obtain ⟨h1, h2⟩ := mem_less.1 hx
    exact h2 (h x h1)
theorem meet_all {a b : List Nm} : meet a b = a ↔ ∀ x ∈ a, x ∈ b := by
  unfold meet
  rw [List.filter_eq_self]
  simp
theorem union_assoc {a b c : List Nm} (ha : Ris a) : insAll (insAll a b) c = insAll a (insAll b c) := (Ris.insAll _ (Ris.insAll _ ha)).ext (Ris.insAll _ ha) fun x => by
  rw [mem_insAll, mem_insAll, mem_insAll, mem_insAll]; exact or_assoc
theorem meet_assoc {a b c : List Nm} (ha : Ris a) : meet (meet a b) c = meet a (meet b c) := ((ha.meet b).meet c).ext (ha.meet _) fun x => by
  rw [mem_meet, mem_meet, mem_meet, mem_meet]; exact and_assoc
theorem meet_union {a b c : List Nm} (ha : Ris a) : meet a (insAll b c) = insAll (meet a b) (meet a c) := (ha.meet _).ext (Ris.insAll _ (ha.meet b)) fun x => by
  rw [mem_meet, mem_insAll, mem_insAll, mem_meet, mem_meet]; exact and_or_left

end Go.Proofs.YtppgifaegnmciaaDoor

namespace Go.Proofs.YtppgifaegnmciaaDoor.Crc

/-- one bit more, the highest of a byte first -/
def bstep (c : BitVec 16) (b : Bool) : BitVec 16 := (c <<< 1) ^^^ (if (c.msb ^^ b) then 0x1021#16 else 0#16)
def bits8 (x : BitVec 8) : List Bool := [x.getLsbD 7, x.getLsbD 6, x.getLsbD 5, x.getLsbD 4, x.getLsbD 3, x.getLsbD 2, x.getLsbD 1, x.getLsbD 0]
/-- one byte more -/
def step (c : BitVec 16) (x : BitVec 8) : BitVec 16 := (bits8 x).foldl bstep c
def more (c : BitVec 16) (l : List (BitVec 8)) : BitVec 16 := l.foldl step c

/-- the document's words -/
def zstep (c : BitVec 16) : BitVec 16 := if 32768 ≤ c.toNat then (c * 2#16) ^^^ 0x1021#16 else c * 2#16
def zsteps : Nat → BitVec 16 → BitVec 16
  | 0, c => c
  | n + 1, c => zsteps n (zstep c)
def docStep (c : BitVec 16) (x : BitVec 8) : BitVec 16 := zsteps 8 (c ^^^ (x.setWidth 16 * 256#16))

/-- the program's table of half bytes -/
def tabL : List (BitVec 16) := [0x0000#16, 0x1021#16, 0x2042#16, 0x3063#16, 0x4084#16, 0x50a5#16, 0x60c6#16, 0x70e7#16, 0x8108#16, 0x9129#16, 0xa14a#16, 0xb16b#16, 0xc18c#16, 0xd1ad#16, 0xe1ce#16, 0xf1ef#16]
def tabB (i : BitVec 4) : BitVec 16 := tabL.getD i.toNat 0#16
def halfB (c : BitVec 16) (h : BitVec 4) : BitVec 16 := (c <<< 4) ^^^ tabB (c.extractLsb' 12 4 ^^^ h)

theorem bstep_xor (c d : BitVec 16) (a b : Bool) : bstep (c ^^^ d) (a ^^ b) = bstep c a ^^^ bstep d b := by
  unfold bstep
  rw [BitVec.shiftLeft_xor_distrib, BitVec.msb_xor]
  generalize c <<< 1 = p
  generalize d <<< 1 = q
  apply BitVec.eq_of_getLsbD_eq
  intro i _
  simp only [BitVec.getLsbD_xor]
  cases c.msb <;> cases d.msb <;> cases a <;> cases b <;> simp <;> cases p.getLsbD i <;> cases q.getLsbD i <;> cases (4129#16).getLsbD i <;> rfl

theorem step_xor (c d : BitVec 16) (x y : BitVec 8) : step (c ^^^ d) (x ^^^ y) = step c x ^^^ step d y := by
  simp only [step, bits8, List.foldl, BitVec.getLsbD_xor, bstep_xor]

theorem more_xor (l m : List (BitVec 8)) (h : l.length = m.length) (c d : BitVec 16) : more (c ^^^ d) (List.zipWith (· ^^^ ·) l m) = more c l ^^^ more d m := by
  induction l generalizing m c d with
  | nil => cases m with
    | nil => rfl
    | cons y m => simp at h
  | cons x l ih => cases m with
    | nil => simp at h
    | cons y m =>
      simp only [more, List.zipWith_cons_cons, List.foldl_cons, step_xor] at ih ⊢
      exact ih m (by simpa using h) _ _

theorem more_append (c : BitVec 16) (l m : List (BitVec 8)) : more c (l ++ m) = more (more c l) m := List.foldl_append

theorem split16 (c : BitVec 16) : c = (c.setWidth 8).setWidth 16 ^^^ (((c >>> 8).setWidth 8).setWidth 16 <<< 8) := by
  apply BitVec.eq_of_getLsbD_eq
  intro i hi
  by_cases h8 : i < 8
  · simp [h8, hi]
  · simp [h8, hi]
    have h1 : i - 8 < 8 := by omega
    rw [show 8 + (i - 8) = i by omega, BitVec.getLsbD_eq_getElem hi]
    simp [h1]

theorem lin_ext (f g : BitVec 16 → BitVec 16) (hf : ∀ a b, f (a ^^^ b) = f a ^^^ f b) (hg : ∀ a b, g (a ^^^ b) = g a ^^^ g b)
    (h0 : ∀ x : BitVec 8, f (x.setWidth 16) = g (x.setWidth 16)) (h1 : ∀ x : BitVec 8, f (x.setWidth 16 <<< 8) = g (x.setWidth 16 <<< 8)) (c : BitVec 16) : f c = g c := by
  rw [split16 c, hf, hg, h0, h1]

theorem tab_xor : ∀ i j : BitVec 4, tabB (i ^^^ j) = tabB i ^^^ tabB j := by decide +kernel
theorem ext_xor (c d : BitVec 16) : (c ^^^ d).extractLsb' 12 4 = c.extractLsb' 12 4 ^^^ d.extractLsb' 12 4 := by
  apply BitVec.eq_of_getLsbD_eq
  intro i _
  simp
  cases decide (i < 4) <;> simp
theorem half_xor (c d : BitVec 16) (g h : BitVec 4) : halfB (c ^^^ d) (g ^^^ h) = halfB c g ^^^ halfB d h := by
  unfold halfB
  rw [BitVec.shiftLeft_xor_distrib, ext_xor, show c.extractLsb' 12 4 ^^^ d.extractLsb' 12 4 ^^^ (g ^^^ h) = (c.extractLsb' 12 4 ^^^ g) ^^^ (d.extractLsb' 12 4 ^^^ h) by ac_rfl, tab_xor]
  ac_rfl

/-- what the program does with a byte -/
theorem code_step (c : BitVec 16) (x : BitVec 8) : halfB (halfB c (x.extractLsb' 4 4)) (x.extractLsb' 0 4) = step c x := by
  have e4 : ∀ y : BitVec 8, (0#8 ^^^ y).extractLsb' 4 4 = (0#8).extractLsb' 4 4 ^^^ y.extractLsb' 4 4 := by decide +kernel
  have e0 : ∀ y : BitVec 8, (0#8 ^^^ y).extractLsb' 0 4 = (0#8).extractLsb' 0 4 ^^^ y.extractLsb' 0 4 := by decide +kernel
  have hx : ∀ y : BitVec 8, halfB (halfB 0#16 (y.extractLsb' 4 4)) (y.extractLsb' 0 4) = step 0#16 y := by decide +kernel
  have hc : ∀ d : BitVec 16, halfB (halfB d ((0#8).extractLsb' 4 4)) ((0#8).extractLsb' 0 4) = step d 0#8 := by
    refine lin_ext _ _ (fun a b => ?_) (fun a b => ?_) (by decide +kernel) (by decide +kernel)
    · have z4 : (0#8).extractLsb' 4 4 = (0#8).extractLsb' 4 4 ^^^ (0#8).extractLsb' 4 4 := by decide
      have z0 : (0#8).extractLsb' 0 4 = (0#8).extractLsb' 0 4 ^^^ (0#8).extractLsb' 0 4 := by decide
      conv => lhs; rw [z0, z4]
      rw [half_xor, half_xor]
    · conv => lhs; rw [show (0#8) = 0#8 ^^^ 0#8 by decide]
      rw [step_xor]
  have e : x = 0#8 ^^^ x := by simp
  have d : c = c ^^^ 0#16 := by simp
  conv => lhs; rw [e, d, e4, e0, half_xor, half_xor, hc, hx, ← step_xor, ← e, ← d]

theorem zstep_eq (c : BitVec 16) : zstep c = bstep c false := by
  unfold zstep bstep
  have h2 : c * 2#16 = c <<< 1 := by
    apply BitVec.eq_of_toNat_eq
    simp [BitVec.toNat_mul, BitVec.toNat_shiftLeft, Nat.shiftLeft_eq]
  have hm : c.msb = decide (32768 ≤ c.toNat) := by rw [BitVec.msb_eq_decide]
  rw [h2, hm]
  by_cases h : 32768 ≤ c.toNat <;> simp [h]
theorem zsteps_xor (n : Nat) (c d : BitVec 16) : zsteps n (c ^^^ d) = zsteps n c ^^^ zsteps n d := by
  induction n generalizing c d with
  | zero => rfl
  | succ n ih => rw [zsteps, zsteps, zsteps, zstep_eq, zstep_eq, zstep_eq, ← ih, ← bstep_xor]; rfl
/-- what the document does with a byte -/
theorem doc_step (c : BitVec 16) (x : BitVec 8) : docStep c x = step c x := by
  have hx : ∀ y : BitVec 8, zsteps 8 (y.setWidth 16 * 256#16) = step 0#16 y := by decide +kernel
  have hc : zsteps 8 c = step c 0#8 := by simp [zsteps, zstep_eq, step, bits8]
  unfold docStep
  rw [zsteps_xor, hx, hc, ← step_xor]
  simp

end Go.Proofs.YtppgifaegnmciaaDoor.Crc

namespace Go.Proofs.YtppgifaegnmciaaDoor

/-- the sum of bytes -/
def sumN (n : Nm) : Nat := (Crc.more 0#16 (n.map UInt8.toBitVec)).toNat
theorem sumN_lt (n : Nm) : sumN n < 65536 := (Crc.more 0#16 (n.map UInt8.toBitVec)).isLt
/-- a value -/
structure Vl where
  kind : Int
  text : Nm
  pairs : List (Nm × Nm)
  items : List Nm
  px : Int
  py : Int
deriving DecidableEq
def zeroV : Vl := ⟨0, [], [], [], 0, 0⟩
/-- not too many, nor none, and none too long -/
def Fits (l : List Nm) : Prop := (∀ x ∈ l, x.length ≤ 1024) ∧ 1 ≤ l.length ∧ l.length ≤ 256
def rtP (x y : Int) : Prop := -1048576 ≤ x ∧ x ≤ 1048576 ∧ -1048576 ≤ y ∧ y ≤ 1048576
/-- which values may be -/
structure RtV (m : Vl) : Prop where
  text : m.kind ≠ 1 → m.text = []
  pairs : m.kind ≠ 2 → m.pairs = []
  items : m.kind ≠ 3 → m.kind ≠ 4 → m.items = []
  point : m.kind ≠ 5 → m.px = 0 ∧ m.py = 0
  k : 1 ≤ m.kind ∧ m.kind ≤ 5
  k1 : m.kind = 1 → m.text.length ≤ 4096
  k2 : m.kind = 2 → Fits (m.pairs.map (·.1)) ∧ Ris (m.pairs.map (·.1)) ∧ Fits (m.pairs.map (·.2))
  k3 : m.kind = 3 → Fits m.items
  k4 : m.kind = 4 → Fits m.items ∧ Ris m.items
  k5 : m.kind = 5 → rtP m.px m.py
open Classical in
noncomputable def rightB (m : Vl) : Bool := decide (RtV m)
open Classical in
theorem rightB_iff {m : Vl} : rightB m = true ↔ RtV m := by unfold rightB; exact decide_eq_true_iff
open Classical in
theorem rightB_not {m : Vl} : rightB m = false ↔ ¬ RtV m := by unfold rightB; exact decide_eq_false_iff_not
/-- a number in two bytes; a text; a point's part -/
def two (n : Nat) : Nm := [UInt8.ofNat (n / 256), UInt8.ofNat (n % 256)]
def tx (s : Nm) : Nm := two s.length ++ s
def part (n : Int) : Nm := two ((n % 4294967296).toNat / 65536) ++ two ((n % 4294967296).toNat % 65536)
def flat (l : List (Nm × Nm)) : List Nm := l.flatMap fun p => [p.1, p.2]
def inner (m : Vl) : Nm :=
  if m.kind = 1 then tx m.text else if m.kind = 2 then two m.pairs.length ++ (flat m.pairs).flatMap tx else if m.kind = 5 then part m.px ++ part m.py else two m.items.length ++ m.items.flatMap tx
def bodyV (m : Vl) : Nm := UInt8.ofNat m.kind.toNat :: inner m
def dumpV (m : Vl) : Nm := bodyV m ++ two (sumN (bodyV m))
/-- two bytes' number -/
def num2 (a b : UInt8) : Nat := a.toNat * 256 + b.toNat
theorem two_num {n : Nat} (h : n < 65536) : num2 (UInt8.ofNat (n / 256)) (UInt8.ofNat (n % 256)) = n := by
  unfold num2
  rw [UInt8.toNat_ofNat', UInt8.toNat_ofNat']
  omega
theorem two_len (n : Nat) : (two n).length = 2 := rfl
theorem two_inj {a b : Nat} (ha : a < 65536) (hb : b < 65536) (h : two a = two b) : a = b := by
  unfold two at h
  injection h with h1 h2
  injection h2 with h2 _
  rw [← two_num ha, ← two_num hb, h1, h2]
theorem num_two (a b : UInt8) : two (num2 a b) = [a, b] := by
  have ha := a.toNat_lt
  have hb := b.toNat_lt
  unfold two num2
  rw [show (a.toNat * 256 + b.toNat) / 256 = a.toNat by omega, show (a.toNat * 256 + b.toNat) % 256 = b.toNat by omega, UInt8.ofNat_toNat, UInt8.ofNat_toNat]
theorem num2_lt (a b : UInt8) : num2 a b < 65536 := by
  have ha := a.toNat_lt
  have hb := b.toNat_lt
  unfold num2
  omega
/-- so many texts are read -/
def rdT : Nm → Nat → Option (List Nm × Nm)
  | r, 0 => some ([], r)
  | a :: b :: r, n + 1 => if r.length < num2 a b then none else (rdT (r.drop (num2 a b)) n).map fun p => (r.take (num2 a b) :: p.1, p.2)
  | _, _ + 1 => none
theorem rdT_tx : ∀ (l : List Nm) (r : Nm), (∀ x ∈ l, x.length < 65536) → rdT (l.flatMap tx ++ r) l.length = some (l, r)
  | [], r, _ => rfl
  | x :: l, r, h => by
    have hx := h x (by simp)
    show rdT ((tx x ++ l.flatMap tx) ++ r) (l.length + 1) = _
    rw [show (tx x ++ l.flatMap tx) ++ r = UInt8.ofNat (x.length / 256) :: UInt8.ofNat (x.length % 256) :: (x ++ (l.flatMap tx ++ r)) by simp [tx, two]]
    unfold rdT
    rw [two_num hx, if_neg (by simp), List.drop_left, List.take_left, rdT_tx l r (fun y hy => h y (by simp [hy]))]
    rfl
theorem rdT_len : ∀ (n : Nat) (r : Nm) (l : List Nm) (q : Nm), rdT r n = some (l, q) → l.length = n ∧ r = l.flatMap tx ++ q ∧ ∀ x ∈ l, x.length < 65536
  | 0, r, l, q, h => by
    simp [rdT] at h
    obtain ⟨rfl, rfl⟩ := h
    exact ⟨rfl, rfl, by simp⟩
  | n + 1, [], l, q, h => by simp [rdT] at h
  | n + 1, [_], l, q, h => by simp [rdT] at h
  | n + 1, a :: b :: r, l, q, h => by
    unfold rdT at h
    split at h
    · simp at h
    · rename_i hn
      obtain ⟨p, hp, he⟩ := Option.map_eq_some_iff.1 h
      obtain ⟨l', q'⟩ := p
      obtain ⟨h1, h2, h3⟩ := rdT_len n _ l' q' hp
      injection he with e1 e2
      subst e1 e2
      have hk : (r.take (num2 a b)).length = num2 a b := by simp; omega
      refine ⟨by simp [h1], ?_, fun x hx => ?_⟩
      · show a :: b :: r = tx (r.take (num2 a b)) ++ l'.flatMap tx ++ q'
        rw [List.append_assoc, ← h2]
        show _ = two _ ++ _ ++ _
        rw [hk, num_two]
        simp
      · rcases List.mem_cons.1 hx with rfl | hx
        · rw [hk]; exact num2_lt a b
        · exact h3 x hx
theorem flatMap_tx_inj {l m : List Nm} {r q : Nm} (hn : l.length = m.length) (hl : ∀ x ∈ l, x.length < 65536) (hm : ∀ x ∈ m, x.length < 65536) (h : l.flatMap tx ++ r = m.flatMap tx ++ q) : l = m ∧ r = q := by
  have h1 := rdT_tx l r hl
  have h2 := rdT_tx m q hm
  rw [h, hn, h2] at h1
  injection h1 with h1
  injection h1 with e1 e2
  exact ⟨e1.symm, e2.symm⟩
theorem flat_len (l : List (Nm × Nm)) : (flat l).length = 2 * l.length := by
  induction l with
  | nil => rfl
  | cons p l ih => show ([p.1, p.2] ++ flat l).length = _; simp [ih]; omega
theorem flat_inj : ∀ {l m : List (Nm × Nm)}, flat l = flat m → l = m
  | [], [], _ => rfl
  | [], (a, b) :: m, h => by simp [flat] at h
  | (a, b) :: l, [], h => by simp [flat] at h
  | (a, b) :: l, (c, d) :: m, h => by
    have h' : a :: b :: flat l = c :: d :: flat m := h
    injection h' with e1 h'
    injection h' with e2 h'
    subst e1 e2
    rw [flat_inj h']
/-- pairs of a row of texts -/
def unflat : List Nm → List (Nm × Nm)
  | a :: b :: l => (a, b) :: unflat l
  | _ => []
theorem unflat_flat : ∀ l : List (Nm × Nm), unflat (flat l) = l
  | [] => rfl
  | (a, b) :: l => by show unflat (a :: b :: flat l) = _; rw [unflat, unflat_flat l]
theorem flat_mem {l : List (Nm × Nm)} {n : Nat} (h1 : ∀ x ∈ l.map (·.1), x.length ≤ n) (h2 : ∀ x ∈ l.map (·.2), x.length ≤ n) : ∀ x ∈ flat l, x.length ≤ n := fun x hx => by
  obtain ⟨p, hp, hx⟩ := List.mem_flatMap.1 hx
  rcases List.mem_cons.1 hx with rfl | hx
  · exact h1 _ (List.mem_map_of_mem hp)
  · have : x = p.2 := by simpa using hx
    subst this
    exact h2 _ (List.mem_map_of_mem hp)
theorem part_inj {a b : Int} (ha : -1048576 ≤ a ∧ a ≤ 1048576) (hb : -1048576 ≤ b ∧ b ≤ 1048576) (h : part a = part b) : a = b := by
  unfold part at h
  obtain ⟨h1, h2⟩ := List.append_inj h rfl
  have e1 := two_inj (by omega) (by omega) h1
  have e2 := two_inj (by omega) (by omega) h2
  omega
theorem inner_inj {m m' : Vl} (h : RtV m) (h' : RtV m') (hk : m.kind = m'.kind) (e : inner m = inner m') : m = m' := by
  obtain ⟨k, t, p, i, x, y⟩ := m
  obtain ⟨k', t', p', i', x', y'⟩ := m'
  have hk' : k = k' := hk
  subst hk'
  obtain ⟨q1, q2, q3, q5, kk, f1, f2, f3, f4, f5⟩ := h
  obtain ⟨r1, r2, r3, r5, _, g1, g2, g3, g4, g5⟩ := h'
  dsimp only at *
  unfold inner at e
  dsimp only at e
  by_cases c1 : k = 1
  · rw [if_pos c1, if_pos c1] at e
    have := flatMap_tx_inj (l := [t]) (m := [t']) (r := []) (q := []) rfl (by have := f1 c1; simp; omega) (by have := g1 c1; simp; omega) (by simpa using e)
    have ht : t = t' := by simpa using this.1
    obtain ⟨rfl, rfl⟩ := q5 (by omega)
    obtain ⟨rfl, rfl⟩ := r5 (by omega)
    rw [ht, q2 (by omega), r2 (by omega), q3 (by omega) (by omega), r3 (by omega) (by omega)]
  · rw [if_neg c1, if_neg c1] at e
    by_cases c2 : k = 2
    · rw [if_pos c2, if_pos c2] at e
      obtain ⟨⟨a1, a2, a3⟩, _, ⟨a4, _, _⟩⟩ := f2 c2
      obtain ⟨⟨b1, b2, b3⟩, _, ⟨b4, _, _⟩⟩ := g2 c2
      simp only [List.length_map] at a2 a3 b2 b3
      obtain ⟨e1, e2⟩ := List.append_inj e rfl
      have hn := two_inj (by omega) (by omega) e1
      have := flatMap_tx_inj (l := flat p) (m := flat p') (r := []) (q := []) (by rw [flat_len, flat_len, hn]) (fun x hx => by have := flat_mem a1 a4 x hx; omega) (fun x hx => by have := flat_mem b1 b4 x hx; omega) (by simpa using e2)
      have hp := flat_inj this.1
      obtain ⟨rfl, rfl⟩ := q5 (by omega)
      obtain ⟨rfl, rfl⟩ := r5 (by omega)
      rw [hp, q1 c1, r1 c1, q3 (by omega) (by omega), r3 (by omega) (by omega)]
    · rw [if_neg c2, if_neg c2] at e
      by_cases c5 : k = 5
      · rw [if_pos c5, if_pos c5] at e
        obtain ⟨a1, a2, a3, a4⟩ := f5 c5
        obtain ⟨b1, b2, b3, b4⟩ := g5 c5
        obtain ⟨e1, e2⟩ := List.append_inj e rfl
        rw [part_inj ⟨a1, a2⟩ ⟨b1, b2⟩ e1, part_inj ⟨a3, a4⟩ ⟨b3, b4⟩ e2, q1 c1, r1 c1, q2 c2, r2 c2, q3 (by omega) (by omega), r3 (by omega) (by omega)]
      · rw [if_neg c5, if_neg c5] at e
        obtain ⟨a1, a2, a3⟩ : Fits i := by
          rcases (show k = 3 ∨ k = 4 by omega) with c | c
          · exact f3 c
          · exact (f4 c).1
        obtain ⟨b1, b2, b3⟩ : Fits i' := by
          rcases (show k = 3 ∨ k = 4 by omega) with c | c
          · exact g3 c
          · exact (g4 c).1
        obtain ⟨e1, e2⟩ := List.append_inj e rfl
        have hn := two_inj (by omega) (by omega) e1
        have := flatMap_tx_inj (l := i) (m := i') (r := []) (q := []) hn (fun x hx => by have := a1 x hx; omega) (fun x hx => by have := b1 x hx; omega) (by simpa using e2)
        obtain ⟨rfl, rfl⟩ := q5 c5
        obtain ⟨rfl, rfl⟩ := r5 c5
        rw [this.1, q1 c1, r1 c1, q2 c2, r2 c2]
theorem body_inj {m m' : Vl} (h : RtV m) (h' : RtV m') (e : bodyV m = bodyV m') : m = m' := by
  unfold bodyV at e
  injection e with e1 e2
  have hk : m.kind = m'.kind := by
    have k1 := h.k
    have k2 := h'.k
    have := congrArg UInt8.toNat e1
    rw [UInt8.toNat_ofNat', UInt8.toNat_ofNat'] at this
    omega
  exact inner_inj h h' hk e2
/-- unlike values have unlike bytes -/
theorem dump_body {m m' : Vl} (e : dumpV m = dumpV m') : bodyV m = bodyV m' := by
  have hl := congrArg List.length e
  unfold dumpV at hl e
  simp only [List.length_append, two_len] at hl
  exact (List.append_inj e (by omega)).1
theorem dump_inj {m m' : Vl} (h : RtV m) (h' : RtV m') (e : dumpV m = dumpV m') : m = m' := body_inj h h' (dump_body e)

end Go.Proofs.YtppgifaegnmciaaDoor

namespace Go.Proofs.YtppgifaegnmciaaDoor.Crc

/-- the bit at place j of a text, the highest of each byte first -/
def bitAt (d : List (BitVec 8)) (j : Nat) : Bool := (d.getD (j / 8) 0#8).getLsbD (7 - j % 8)
/-- the sum, bit by bit -/
def run (f : Nat → Bool) : Nat → BitVec 16
  | 0 => 0#16
  | j + 1 => bstep (run f j) (f j)

theorem run_congr (f g : Nat → Bool) : ∀ n, (∀ j, j < n → f j = g j) → run f n = run g n
  | 0, _ => rfl
  | n + 1, h => by rw [run, run, run_congr f g n (fun j hj => h j (by omega)), h n (by omega)]
theorem bitAt_in (d : List (BitVec 8)) (k i : Nat) (hi : i < 8) : bitAt d (8 * k + i) = (d.getD k 0#8).getLsbD (7 - i) := by
  unfold bitAt
  rw [show (8 * k + i) / 8 = k by omega, show (8 * k + i) % 8 = i by omega]
theorem run_bytes (d : List (BitVec 8)) : ∀ k, k ≤ d.length → run (bitAt d) (8 * k) = more 0#16 (d.take k)
  | 0, _ => rfl
  | k + 1, h => by
    have ih := run_bytes d k (by omega)
    have e : d.take (k + 1) = d.take k ++ [d.getD k 0#8] := by
      rw [List.take_succ_eq_append_getElem (by omega)]
      simp [List.getD, show k < d.length by omega]
    rw [e, more_append, ← ih]
    show run (bitAt d) (8 * k + 8) = step (run (bitAt d) (8 * k)) (d.getD k 0#8)
    simp only [run, step, bits8, List.foldl]
    rw [show 8 * k = 8 * k + 0 from rfl]
    simp only [Nat.add_assoc, bitAt_in d k _ (show 0 < 8 by decide), Nat.reduceAdd, bitAt_in d k _ (show 1 < 8 by decide), bitAt_in d k _ (show 2 < 8 by decide), bitAt_in d k _ (show 3 < 8 by decide), bitAt_in d k _ (show 4 < 8 by decide), bitAt_in d k _ (show 5 < 8 by decide), bitAt_in d k _ (show 6 < 8 by decide), bitAt_in d k _ (show 7 < 8 by decide)]

theorem bstep_zero : bstep 0#16 false = 0#16 := by decide
theorem run_zero (f : Nat → Bool) : ∀ n, (∀ j, j < n → f j = false) → run f n = 0#16
  | 0, _ => rfl
  | n + 1, h => by rw [run, run_zero f n (fun j hj => h j (by omega)), h n (by omega), bstep_zero]

theorem bstep_low (c : BitVec 16) (b : Bool) (i : Nat) (hi : i + 1 < 16) (h : ∃ t, t ≤ i ∧ c.getLsbD t = true) : ∃ t, t ≤ i + 1 ∧ (bstep c b).getLsbD t = true := by
  unfold bstep
  by_cases hb : (c.msb ^^ b) = true
  · exact ⟨0, by omega, by simp [hb]⟩
  · obtain ⟨t, ht, hc⟩ := h
    refine ⟨t + 1, by omega, ?_⟩
    simp [hb, hc]
    omega
theorem bstep_ne (c : BitVec 16) (h : c ≠ 0#16) : bstep c false ≠ 0#16 := by
  unfold bstep
  intro e
  by_cases hb : c.msb = true
  · have := congrArg (fun x => x.getLsbD 0) e
    simp [hb] at this
  · apply h
    simp [hb] at e
    apply BitVec.eq_of_getLsbD_eq
    intro i hi
    by_cases h15 : i = 15
    · subst h15
      have hm : c.getLsbD 15 = false := by simpa [BitVec.msb_eq_getLsbD_last] using hb
      rw [hm]; simp
    · have := congrArg (fun x => x.getLsbD (i + 1)) e
      simp at this
      have h16 : i + 1 < 16 := by omega
      have := this h16
      simp [this]

theorem run_after (f : Nat → Bool) (j : Nat) (hj : f j = true) (h0 : ∀ i, i < j → f i = false) : ∀ i, i ≤ 15 → ∃ t, t ≤ i ∧ (run f (j + 1 + i)).getLsbD t = true
  | 0, _ => ⟨0, Nat.le_refl _, by rw [Nat.add_zero, run, run_zero f j h0, hj]; decide⟩
  | i + 1, hi => bstep_low _ _ i (by omega) (run_after f j hj h0 i (by omega))
theorem ne_of_bit {c : BitVec 16} (h : ∃ t, c.getLsbD t = true) : c ≠ 0#16 := by
  rintro rfl
  simp at h
theorem run_ne (f : Nat → Bool) (j : Nat) (hj : f j = true) (h0 : ∀ i, i < j → f i = false) (h1 : ∀ i, j + 16 ≤ i → f i = false) : ∀ n, j < n → run f n ≠ 0#16
  | 0, h => absurd h (by omega)
  | n + 1, h => by
    by_cases hs : n + 1 ≤ j + 16
    · obtain ⟨t, _, ht⟩ := run_after f j hj h0 (n - j) (by omega)
      rw [show j + 1 + (n - j) = n + 1 by omega] at ht
      exact ne_of_bit ⟨t, ht⟩
    · rw [run, h1 n (by omega)]
      exact bstep_ne _ (run_ne f j hj h0 h1 n (by omega))
theorem first_true (f : Nat → Bool) : ∀ n, (∃ j, j < n ∧ f j = true) → ∃ j, j < n ∧ f j = true ∧ ∀ i, i < j → f i = false
  | 0, ⟨j, hj, _⟩ => absurd hj (by omega)
  | n + 1, h => by
    by_cases hn : ∃ j, j < n ∧ f j = true
    · obtain ⟨j, hj, h2⟩ := first_true f n hn
      exact ⟨j, by omega, h2⟩
    · obtain ⟨j, hj, hf⟩ := h
      have hall : ∀ i, i < n → f i = false := fun i hi => by
        cases e : f i
        · rfl
        · exact absurd ⟨i, hi, e⟩ hn
      have : j = n := by
        by_cases hlt : j < n
        · rw [hall j hlt] at hf; cases hf
        · omega
      subst this
      exact ⟨j, hj, hf, hall⟩

/-- bits turned within sixteen that stand in a row are seen -/
theorem burst (d : List (BitVec 8)) (at' : Nat) (f : Nat → Bool) (hd : ∀ j, j < 8 * d.length → bitAt d j = f j) (h0 : ∀ j, j < at' → f j = false) (h1 : ∀ j, at' + 16 ≤ j → f j = false) (hex : ∃ j, j < 8 * d.length ∧ f j = true) : more 0#16 d ≠ 0#16 := by
  have e := run_bytes d d.length (Nat.le_refl _)
  rw [List.take_length] at e
  rw [← e, run_congr _ f _ hd]
  obtain ⟨j, hj, hf, hfirst⟩ := first_true f _ hex
  have hat : at' ≤ j := by
    by_cases h : j < at'
    · rw [h0 j h] at hf; cases hf
    · omega
  exact run_ne f j hf hfirst (fun i hi => h1 i (by omega)) _ hj

/-- which bits have been turned behind k rounds: the text d holds them, t tells whether there are any -/
def Turns (at' : Nat) (T : BitVec 16) (n k : Nat) (d : List (BitVec 8)) (t : Bool) : Prop :=
  d.length = n ∧ (∀ j, j < 8 * n → bitAt d j = (decide (at' ≤ j) && decide (j < at' + k) && T.getLsbD (j - at'))) ∧ (t = true ↔ ∃ i, i < k ∧ T.getLsbD i = true ∧ at' + i < 8 * n)

theorem Turns.start (at' : Nat) (T : BitVec 16) (n : Nat) : Turns at' T n 0 (List.replicate n 0#8) false := by
  refine ⟨by simp, fun j hj => ?_, by simp⟩
  have h : (List.replicate n 0#8).getD (j / 8) 0#8 = 0#8 := by
    simp only [List.getD, List.getElem?_replicate]
    split <;> rfl
  unfold bitAt
  rw [h]
  by_cases h1 : at' ≤ j
  · simp
    omega
  · simp [h1]
theorem Turns.skip {at' : Nat} {T : BitVec 16} {n k : Nat} {d : List (BitVec 8)} {t : Bool} (h : Turns at' T n k d t) (hs : T.getLsbD k = false ∨ ¬ at' + k < 8 * n) : Turns at' T n (k + 1) d t := by
  obtain ⟨h1, h2, h3⟩ := h
  refine ⟨h1, fun j hj => ?_, h3.trans ⟨fun ⟨i, hi, hb⟩ => ⟨i, by omega, hb⟩, fun ⟨i, hi, hb, hn⟩ => ?_⟩⟩
  · rw [h2 j hj]
    by_cases hjk : j = at' + k
    · rcases hs with hs | hs
      · subst hjk
        simp [hs]
      · omega
    · rw [show decide (j < at' + (k + 1)) = decide (j < at' + k) by by_cases hd : j < at' + k <;> simp [hd] <;> omega]
  · by_cases hik : i = k
    · subst hik
      rcases hs with hs | hs
      · rw [hs] at hb; cases hb
      · omega
    · exact ⟨i, by omega, hb, hn⟩
theorem mask_bit : ∀ r : Fin 8, ∀ q : Fin 8, (128#8 >>> r.val).getLsbD (7 - q.val) = decide (q = r) := by decide +kernel
theorem Turns.turn {at' : Nat} {T : BitVec 16} {n k : Nat} {d : List (BitVec 8)} {t : Bool} (h : Turns at' T n k d t) (hb : T.getLsbD k = true) (hn : at' + k < 8 * n) : Turns at' T n (k + 1) (d.set ((at' + k) / 8) (d.getD ((at' + k) / 8) 0#8 ^^^ (128#8 >>> ((at' + k) % 8)))) true := by
  obtain ⟨h1, h2, h3⟩ := h
  refine ⟨by simpa using h1, fun j hj => ?_, ⟨fun _ => ⟨k, by omega, hb, hn⟩, fun _ => rfl⟩⟩
  have h2j := h2 j hj
  unfold bitAt at h2j ⊢
  by_cases hp : j / 8 = (at' + k) / 8
  · rw [hp] at h2j ⊢
    have e : (d.set ((at' + k) / 8) (d.getD ((at' + k) / 8) 0#8 ^^^ (128#8 >>> ((at' + k) % 8)))).getD ((at' + k) / 8) 0#8 = d.getD ((at' + k) / 8) 0#8 ^^^ (128#8 >>> ((at' + k) % 8)) := by
      simp [List.getD, show (at' + k) / 8 < d.length by omega]
    rw [e, BitVec.getLsbD_xor, h2j]
    have hm := mask_bit ⟨(at' + k) % 8, by omega⟩ ⟨j % 8, by omega⟩
    simp only [Fin.mk.injEq] at hm
    rw [hm]
    by_cases hjk : j = at' + k
    · subst hjk
      simp [hb]
    · rw [show decide (j % 8 = (at' + k) % 8) = false by simp; omega, show decide (j < at' + (k + 1)) = decide (j < at' + k) by by_cases hd : j < at' + k <;> simp [hd] <;> omega]
      simp
  · have e : (d.set ((at' + k) / 8) (d.getD ((at' + k) / 8) 0#8 ^^^ (128#8 >>> ((at' + k) % 8)))).getD (j / 8) 0#8 = d.getD (j / 8) 0#8 := by
      simp only [List.getD]
      rw [List.getElem?_set_ne (by omega)]
    rw [e, h2j, show decide (j < at' + (k + 1)) = decide (j < at' + k) by by_cases hd : j < at' + k <;> simp [hd] <;> omega]

theorem Turns.seen {at' : Nat} {T : BitVec 16} {n : Nat} {d : List (BitVec 8)} {t : Bool} (h : Turns at' T n 16 d t) (ht : t = true) : more 0#16 d ≠ 0#16 := by
  obtain ⟨h1, h2, h3⟩ := h
  obtain ⟨i, hi, hb, hn⟩ := h3.1 ht
  refine burst d at' (fun j => decide (at' ≤ j) && decide (j < at' + 16) && T.getLsbD (j - at')) (fun j hj => h2 j (by omega)) (fun j hj => ?_) (fun j hj => ?_) ⟨at' + i, by omega, ?_⟩
  · simp [show ¬ at' ≤ j by omega]
  · simp [show ¬ j < at' + 16 by omega]
  · simp [hb, show at' + i < at' + 16 by omega]

/-- a text with those bits turned has another sum -/
theorem Turns.other {at' : Nat} {T : BitVec 16} {l d : List (BitVec 8)} {t : Bool} (h : Turns at' T l.length 16 d t) (ht : t = true) : more 0#16 (List.zipWith (· ^^^ ·) l d) ≠ more 0#16 l := by
  have hx := more_xor l d h.1.symm 0#16 0#16
  rw [show (0#16 ^^^ 0#16) = 0#16 by decide] at hx
  rw [hx]
  intro e
  apply h.seen ht
  have := congrArg (fun z => more 0#16 l ^^^ z) e
  simpa [← BitVec.xor_assoc] using this
theorem zip_zero (l : List (BitVec 8)) : List.zipWith (· ^^^ ·) l (List.replicate l.length 0#8) = l := by
  induction l with
  | nil => rfl
  | cons x l ih => simp [List.replicate_succ, ih]
theorem zip_set (l d : List (BitVec 8)) (p : Nat) (m : BitVec 8) (hl : d.length = l.length) (hp : p < l.length) : (List.zipWith (· ^^^ ·) l d).set p ((List.zipWith (· ^^^ ·) l d).getD p 0#8 ^^^ m) = List.zipWith (· ^^^ ·) l (d.set p (d.getD p 0#8 ^^^ m)) := by
  have hd : p < d.length := by omega
  have hz : (List.zipWith (· ^^^ ·) l d).getD p 0#8 = l[p] ^^^ d[p] := by
    rw [List.getD_eq_getElem?_getD, List.getElem?_eq_getElem (by simp; omega)]
    simp
  have hdd : d.getD p 0#8 = d[p] := by simp [List.getD, hd]
  rw [hz, hdd]
  apply List.ext_getElem
  · simp
  · intro i h1 h2
    simp only [List.getElem_set, List.getElem_zipWith]
    by_cases hi : p = i
    · subst hi
      simp [BitVec.xor_assoc]
    · simp [hi]

end Go.Proofs.YtppgifaegnmciaaDoor.Crc

namespace Go.Proofs.YtppgifaegnmciaaDoor
open Go.RowKit

theorem hid {p : Prop} (h : p) : Hid p := h
theorem below_alloc (w : World) (o : Obj) : Below w.heap.size w (w.alloc o) := (Below.refl _ _).alloc (Nat.le_refl _) o

end Go.Proofs.YtppgifaegnmciaaDoor

namespace Go.Proofs.YtppgifaegnmciaaDoor
open Go.RowKit

/-- a row of texts -/
abbrev Row := List (List UInt8)
/-- a text's value -/
abbrev txt (t : List UInt8) : Value := .string ⟨t.toArray⟩
/-- the blocks of P are as they were -/
structure Keep (P : Nat → Prop) (w w' : World) : Prop where
  os : w'.os = w.os
  tape : w'.tape = w.tape
  output : w'.output = w.output
  size : w.heap.size ≤ w'.heap.size
  block : ∀ k, k < w.heap.size → P k → w'.heap[k]? = w.heap[k]?
theorem Keep.refl (P : Nat → Prop) (w : World) : Keep P w w := ⟨rfl, rfl, rfl, Nat.le_refl _, fun _ _ _ => rfl⟩
theorem Keep.trans {P : Nat → Prop} {x y z : World} (h : Keep P x y) (k : Keep P y z) : Keep P x z :=
  ⟨k.os.trans h.os, k.tape.trans h.tape, k.output.trans h.output, Nat.le_trans h.size k.size, fun i hi hb => (k.block i (Nat.lt_of_lt_of_le hi h.size) hb).trans (h.block i hi hb)⟩
theorem Keep.mono {P Q : Nat → Prop} {x y : World} (h : Keep P x y) (hq : ∀ k, Q k → P k) : Keep Q x y := ⟨h.os, h.tape, h.output, h.size, fun i hi hb => h.block i hi (hq i hb)⟩
theorem Keep.of_below {P : Nat → Prop} {w w' : World} (h : Below w.heap.size w w') : Keep P w w' := ⟨h.os, h.tape, h.output, h.size, fun k hk _ => h.block k hk⟩
/-- from the call's beginning -/
theorem Keep.below {P : Nat → Prop} {w w' : World} (h : Keep P w w') (hp : ∀ k, k < w.heap.size → P k) : Below w.heap.size w w' := ⟨h.os, h.tape, h.output, h.size, fun k hk => h.block k hk (hp k hk)⟩
theorem Below.tail {n : Nat} {w w' w'' : World} {P : Nat → Prop} (h : Below n w w') (k : Keep P w' w'') (hp : ∀ i, i < n → P i) (hn : n ≤ w'.heap.size) : Below n w w'' :=
  ⟨k.os.trans h.os, k.tape.trans h.tape, k.output.trans h.output, Nat.le_trans h.size k.size, fun i hi => (k.block i (by omega) (hp i hi)).trans (h.block i hi)⟩
theorem cell_turn {w w' : World} {b k : Nat} {v : Value} (h : w.cell? ⟨b, k, none⟩ = some v) (he : w'.heap[b]? = w.heap[b]?) : w'.cell? ⟨b, k, none⟩ = some v := by
  rw [World.cell?_of_block (w := w) he]; exact h
/-- a slice is this row of texts; its block is one of P -/
def Tl (P : Nat → Prop) (w : World) (v : Value) (l : Row) : Prop :=
  (v = .slice none 0 0 ∧ l = []) ∨ ∃ g o c, v = .slice (some ⟨g, o, none⟩) l.length c ∧ l.length ≤ c ∧ P g ∧ g < w.heap.size ∧ ∀ i (h : i < l.length), w.cell? ⟨g, o + i, none⟩ = some (txt l[i])
theorem Tl.nil (P : Nat → Prop) (w : World) : Tl P w (.slice none 0 0) [] := .inl ⟨rfl, rfl⟩
theorem Tl.keep {P Q : Nat → Prop} {w w' : World} {v : Value} {l : Row} (h : Tl P w v l) (k : Keep P w w') (hq : ∀ i, P i → Q i) : Tl Q w' v l := by
  rcases h with h | ⟨g, o, c, h1, h2, h3, h4, h5⟩
  · exact .inl h
  · exact .inr ⟨g, o, c, h1, h2, hq g h3, Nat.lt_of_lt_of_le h4 k.size, fun i hi => cell_turn (h5 i hi) (k.block g h4 h3)⟩
theorem Tl.below {P : Nat → Prop} {w w' : World} {v : Value} {l : Row} (h : Tl P w v l) (k : Below w.heap.size w w') : Tl P w' v l := h.keep (Keep.of_below k) (fun _ h => h)
theorem Tl.mono {P Q : Nat → Prop} {w : World} {v : Value} {l : Row} (h : Tl P w v l) (hq : ∀ i, P i → Q i) : Tl Q w v l := h.keep (Keep.refl _ _) hq
theorem Tl.shape {P : Nat → Prop} {w : World} {v : Value} {l : Row} (h : Tl P w v l) : ∃ p c, v = .slice p l.length c ∧ l.length ≤ c := by
  rcases h with ⟨rfl, rfl⟩ | ⟨g, o, c, rfl, hc, _⟩
  · exact ⟨none, 0, rfl, Nat.le_refl _⟩
  · exact ⟨_, c, rfl, hc⟩
/-- where its texts lie -/
theorem Tl.cells {P : Nat → Prop} {w : World} {p : Option Addr} {n c : Nat} {l : Row} (h : Tl P w (.slice p n c) l) (i : Nat) (hi : i < l.length) : ∃ g o, p = some ⟨g, o, none⟩ ∧ g < w.heap.size ∧ P g ∧ ∀ j (hj : j < l.length), w.cell? ⟨g, o + j, none⟩ = some (txt l[j]) := by
  rcases h with ⟨_, rfl⟩ | ⟨g, o, c', h1, h2, h3, h4, h5⟩
  · simp at hi
  · injection h1 with h1 _ _
    exact ⟨g, o, h1, h4, h3, h5⟩
/-- a part of a row -/
theorem Tl.part {P : Nat → Prop} {w : World} {p : Option Addr} {n c : Nat} {l : Row} (h : Tl P w (.slice p n c) l) (a b : Nat) (hab : a ≤ b) (hb : b ≤ l.length) :
    Tl P w (.slice (if c = a then p else p.map (·.add a)) (b - a) (c - a)) ((l.drop a).take (b - a)) := by
  have hlen : ((l.drop a).take (b - a)).length = b - a := by simp; omega
  rcases h with ⟨h1, rfl⟩ | ⟨g, o, c', h1, h2, h3, h4, h5⟩
  · injection h1 with e1 e2 e3
    subst e1 e2 e3
    simp at hb
    subst hb
    have : a = 0 := by omega
    subst this
    exact .inl ⟨rfl, rfl⟩
  · injection h1 with e1 e2 e3
    subst e1 e2 e3
    by_cases hc : c = a
    · rw [if_pos hc]
      refine .inr ⟨g, o, c - a, by rw [hlen], by omega, h3, h4, fun i hi => ?_⟩
      omega
    · rw [if_neg hc]
      refine .inr ⟨g, o + a, c - a, by rw [hlen, Option.map_some, Go.WideShapes.add_plain], by omega, h3, h4, fun i hi => ?_⟩
      rw [Nat.add_assoc, h5 (a + i) (by omega)]
      simp
theorem Tl.parts {P : Nat → Prop} {w : World} {g o n c : Nat} {l : Row} (h : Tl P w (.slice (some ⟨g, o, none⟩) n c) l) (a b : Nat) (hab : a ≤ b) (hb : b ≤ l.length) :
    (c = a ∧ Tl P w (.slice (some ⟨g, o, none⟩) (b - a) 0) ((l.drop a).take (b - a))) ∨ (c ≠ a ∧ Tl P w (.slice (some ⟨g, o + a, none⟩) (b - a) (c - a)) ((l.drop a).take (b - a))) := by
  have := h.part a b hab hb
  by_cases hc : c = a
  · rw [if_pos hc] at this
    subst hc
    rw [Nat.sub_self] at this
    exact .inl ⟨rfl, this⟩
  · rw [if_neg hc, Option.map_some, Go.WideShapes.add_plain] at this
    exact .inr ⟨hc, this⟩
/-- a row of the call's own -/
abbrev Own (B : Nat) (w : World) (v : Value) (l : Row) : Prop := w.ownsRow B 9 1 v l.length (l.map txt)
theorem Own.tl {B : Nat} {P : Nat → Prop} {w : World} {v : Value} {l : Row} (h : Own B w v l) (hp : ∀ k, B ≤ k → P k) : Tl P w v l := by
  rcases h.2 with ⟨rfl, h0⟩ | ⟨g, cap, cur, rfl, hg, hc, hnc, _⟩
  · exact .inl ⟨rfl, List.length_eq_zero_iff.1 h0⟩
  · refine .inr ⟨g, 0, cap, rfl, hnc, hp g hg, (Array.getElem?_eq_some_iff.1 hc).1, fun i hi => ?_⟩
    have := World.ownsRow.cells h (g := g) rfl i (txt l[i]) (by simp [hi])
    rwa [Go.WideShapes.add_plain] at this
theorem owns_below {W W' : World} {base : Nat} {e : TypeId} {size : Nat} {v : Value} {n : Nat} {xs : List Value} (h : W.ownsRow base e size v n xs) (hb : Below W.heap.size W W') : W'.ownsRow base e size v n xs := by
  refine ⟨h.1, ?_⟩
  rcases h.2 with h | ⟨g, cap, cur, h1, h2, h3, h4⟩
  · exact .inl h
  · exact .inr ⟨g, cap, cur, h1, h2, (hb.block g (Array.getElem?_eq_some_iff.1 h3).1).trans h3, h4⟩
theorem infoS : (Tryd.prog.info? 9).map (fun i => (i.zero, i.size, i.bytes)) = some (some (.string ⟨#[]⟩), 1, 16) := by kernel_rfl
theorem append_none {W : World} {B : Nat} {v : Value} {l : Row} (h : Own B W v l) :
    (Builtin.append_ #[30, 30] 30 #[v, .slice none 0 0]).run Tryd.prog W = .ok v W := by
  obtain ⟨i0, hi, _⟩ := info_parts infoS
  exact run_append_owned_none (P := Tryd.prog) W B 30 30 9 i0 1 Tryd.underlying30 hi v _ _ h
/-- texts of a row are put behind an own one -/
theorem Own.app {B : Nat} {P : Nat → Prop} {W : World} {v u : Value} {l m : Row} (h : Own B W v l) (hB : B ≤ W.heap.size) (hu : Tl P W u m) (hl : l.length + m.length ≤ 4000000) :
    ∃ v' W', (Builtin.append_ #[30, 30] 30 #[v, u]).run Tryd.prog W = .ok v' W' ∧ Own B W' v' (l ++ m) ∧ Below B W W' := by
  obtain ⟨i0, hi, hz0, hz1, hz2⟩ := info_parts infoS
  rcases hu with ⟨rfl, rfl⟩ | ⟨g, o, c, rfl, h2, h3, h4, h5⟩
  · exact ⟨v, W, append_none h, by simpa [Own] using h, Below.refl _ _⟩
  · obtain ⟨v', w', hrun, ho, hgr, _⟩ := run_append_own (P := Tryd.prog) W B 30 30 9 i0 (.string ⟨#[]⟩) 1 16 Tryd.underlying30 hi hz0 hz1 hz2 rfl (by decide) _ _ _ h ⟨g, o, none⟩ m.length c (m.map txt) (by simp)
      (fun j u' hj => by
        rw [Go.WideShapes.add_plain]
        rw [List.getElem?_map] at hj
        cases hm : m[j]? with
        | none => rw [hm] at hj; cases hj
        | some t =>
          rw [hm] at hj
          obtain ⟨hjl, e⟩ := List.getElem?_eq_some_iff.1 hm
          rw [h5 j hjl, e]
          exact hj)
      (fun u' hu' => by
        obtain ⟨t, _, rfl⟩ := List.mem_map.1 hu'
        rfl) (by unfold maxLen; omega) (by omega) hB
    refine ⟨v', w', hrun, ?_, (Below.refl B W).grown hgr hB (fun k hk => (World.ownsRow.lt h k hk).1)⟩
    show w'.ownsRow B 9 1 v' (l ++ m).length ((l ++ m).map txt)
    rw [List.length_append, List.map_append]
    exact ho
/-- one text, laid for an append -/
theorem one_tl (P : Nat → Prop) (w : World) (t : List UInt8) (hp : P w.heap.size) : Tl P (w.alloc (.cells #[txt t] 9)) (.slice (some ⟨w.heap.size, 0, none⟩) 1 1) [t] :=
  .inr ⟨w.heap.size, 0, 1, rfl, by simp, hp, by simp, fun i hi => by
    have : i = 0 := by simp at hi; omega
    subst this
    rw [cell_of_row _ _ _ _ _ _ (heap_alloc_new w _)]
    rfl⟩

end Go.Proofs.YtppgifaegnmciaaDoor

namespace Go.Proofs.YtppgifaegnmciaaDoor
open Go.RowKit

theorem below_drewN (w : World) (n : Nat) : Below w.heap.size w (w.drewN n) := ⟨rfl, rfl, rfl, Nat.le_refl _, fun _ _ => rfl⟩
theorem below_redrawn {B : Nat} {a w : World} (h : Below B a w) (d : Nat) : Below B a { w with drawn := d } := ⟨h.os, h.tape, h.output, h.size, h.block⟩
theorem drop_step {α : Type} {l : List α} {k : Nat} (h : k < l.length) : l.drop k = l[k] :: l.drop (k + 1) := List.drop_eq_getElem_cons h
/-- where texts lie -/
def Strs (w : World) (p : Option Addr) (l : Row) : Prop := l ≠ [] → ∃ b o, p = some ⟨b, o, none⟩ ∧ ∀ i (h : i < l.length), w.cell? ⟨b, o + i, none⟩ = some (txt l[i])
theorem Strs.cells {w : World} {p : Option Addr} {l : Row} (h : Strs w p l) (i : Nat) (hi : i < l.length) : ∃ g o, p = some ⟨g, o, none⟩ ∧ g < w.heap.size ∧ True ∧ ∀ j (hj : j < l.length), w.cell? ⟨g, o + j, none⟩ = some (txt l[j]) := by
  obtain ⟨b, o, h1, h2⟩ := h (fun e => by rw [e] at hi; simp at hi)
  exact ⟨b, o, h1, block_lt_of_cell (h2 i hi), trivial, h2⟩
set_option maxHeartbeats 2000000 in
set_option maxRecDepth 100000 in
/-- ref Same -/
theorem same_any (p1 : Option Addr) (c1 : Nat) (p2 : Option Addr) (c2 : Nat) (l m : Row) (w : World) (h1 : Strs w p1 l) (h2 : Strs w p2 m) (hl : l.length ≤ 140737488351232) :
    Calls Tryd.prog 53 #[.slice p1 l.length c1, .slice p2 m.length c2] w fun e w' => e = .returned (.bool (decide (l = m))) ∧ Hid (Below w.heap.size w w') := by
  obtain ⟨V, hV⟩ : ∃ V, V = decide (l = m) := ⟨_, rfl⟩
  rw [← hV]
  have HV := hid hV
  clear hV
  by_cases hlen : l.length = m.length
  · have H1 := hid fun i hi => h1.cells i hi
    have H2 := hid fun i hi => h2.cells i hi
    have HL := hid hlen
    rw [← hlen]
    have hne : ((l.length : Int) != (l.length : Int)) = false := by simp
    clear h1 h2 hlen
    go_enter Tryd.func53, Tryd.ntmps53
    go_wp2
    go_loopw [5] (fun v5 W => ∃ k : Nat, v5 = .int .i64 k ∧ k ≤ l.length ∧ Hid (l.drop k = m.drop k ↔ l = m) ∧ Hid (Below w.heap.size w W)) (fun v5 _ => l.length - (intOf v5).toNat)
    case atStart => exact ⟨0, rfl, Nat.zero_le _, by simp [Hid], Below.refl _ _⟩
    case round =>
      obtain ⟨k, rfl, hk, HD, HB⟩ := hrel
      by_cases hlt : k < l.length
      · have hlt2 : k < m.length := by rw [← HL.out]; exact hlt
        have hlz : (k : Int) < (l.length : Int) := by omega
        obtain ⟨g1, o1, rfl, hg1, -, hc1⟩ := H1.out k hlt
        obtain ⟨g2, o2, rfl, hg2, -, hc2⟩ := H2.out k hlt2
        have x1 : wr.cell? ⟨g1, o1 + k, none⟩ = some (txt l[k]) := by rw [HB.out.cell hg1]; exact hc1 k hlt
        have x2 : wr.cell? ⟨g2, o2 + k, none⟩ = some (txt m[k]) := by rw [HB.out.cell hg2]; exact hc2 k hlt2
        have HS := hid (drop_step hlt)
        have HS2 := hid (drop_step hlt2)
        generalize l[k] = s at *
        generalize m[k] = t at *
        clear hc1 hc2
        by_cases hst : s = t
        · subst hst
          have HD2 : Hid (l.drop (k + 1) = m.drop (k + 1) ↔ l = m) := by
            have := HD.out
            rw [HS.out, HS2.out] at this
            exact ⟨fun h => this.1 (by rw [h]), fun h => (List.cons.inj (this.2 h)).2⟩
          go_wp2_with fail
          go_quiet (fail)
          go_wp2_with fail
          exact ⟨⟨k + 1, by go_num, by omega, HD2.out, by first | exact HB.out | exact HB.out.drew | exact below_redrawn HB.out _⟩, by simp [intOf]; omega⟩
        · obtain rfl : V = false := by
            rw [HV.out]
            refine decide_eq_false fun h => hst ?_
            have := HD.out.2 h
            rw [HS.out, HS2.out] at this
            exact (List.cons.inj this).1
          have hn : (s == t) = false := beq_eq_false_iff_ne.2 hst
          clear hst
          go_wp2_with fail
          go_quiet (fail)
          go_wp2_with fail
          go_ret
          first | exact ⟨rfl, HB.out⟩ | exact ⟨rfl, HB.out.drew⟩ | exact ⟨rfl, below_redrawn HB.out _⟩
      · obtain rfl : V = true := by
          rw [HV.out]
          refine decide_eq_true (HD.out.1 ?_)
          rw [List.drop_eq_nil_of_le (by omega), List.drop_eq_nil_of_le (by have := HL.out; omega)]
        go_wp2
        go_ret
        exact ⟨rfl, HB.out⟩
  · obtain rfl : V = false := by rw [HV.out]; exact decide_eq_false fun h => hlen (by rw [h])
    have hne : ((l.length : Int) != (m.length : Int)) = true := by simp; omega
    clear h1 h2
    go_enter Tryd.func53, Tryd.ntmps53
    go_wp2
    go_ret
    exact ⟨rfl, Below.refl _ _⟩

end Go.Proofs.YtppgifaegnmciaaDoor

namespace Go.Proofs.YtppgifaegnmciaaDoor
open Go.RowKit

/-- a text is put behind an own row -/
theorem Own.push {B : Nat} {W : World} {v : Value} {l : Row} (h : Own B W v l) (hB : B ≤ W.heap.size) (t : List UInt8) (hl : l.length ≤ 3000000) :
    ∃ v' W', (Builtin.append_ #[30, 30] 30 #[v, .slice (some ⟨W.heap.size, 0, none⟩) 1 1]).run Tryd.prog (W.alloc (.cells #[txt t] 9)) = .ok v' W' ∧ Own B W' v' (l ++ [t]) ∧ Below B W W' := by
  have hb := below_alloc W (.cells #[txt t] 9)
  obtain ⟨v', W', h1, h2, h3⟩ := Own.app (owns_below h hb) (Nat.le_trans hB hb.size) (one_tl (fun _ => True) W t trivial) (by simp; omega)
  exact ⟨v', W', h1, h2, (hb.mono hB).trans h3⟩
theorem Own.shape {B : Nat} {w : World} {v : Value} {l : Row} (h : Own B w v l) : ∃ p c, v = .slice p l.length c ∧ l.length ≤ c := (h.tl (P := fun _ => True) (fun _ _ => trivial)).shape
theorem wpList_append_runs {P : Program} {ops : Array Oper} {rest : List Oper} {o : Oper} {a : Act} {w : World} {Q : Exit → Act → World → Prop} (hw : Region.wanted o (yielded ops a.tmps) = true) (s x : Operand) (t u : TypeId)
    (ho : o.op = .call { callee := .builtin .append, args := #[s, x], argTypes := #[t, u] }) (v y v' : Value) (w' : World) (hs : a.eval s = v) (hx : a.eval x = y)
    (hrun : (Builtin.append_ #[t, u] o.type #[v, y]).run P w = .ok v' w') (h : wpList P ops Q rest (a.put o.dst v') w') : wpList P ops Q (o :: rest) a w := by
  refine wpList_step fun K hK => ?_
  rw [if_pos hw]
  unfold Oper.wp execOp
  simp only [ho, resolve, invoke, builtin, Sem.run_bind, Sem.run_pure, Result.andThen_ok, List.map_toArray, List.map_cons, List.map_nil, hs, hx, hrun]
  exact hK _ _ h
theorem Strs.below {w w' : World} {p : Option Addr} {l : Row} (h : Strs w p l) (k : Below w.heap.size w w') : Strs w' p l := fun hne => by
  obtain ⟨b, o, rfl, hc⟩ := h hne
  exact ⟨b, o, rfl, fun i hi => cell_turn (hc i hi) (k.block b (block_lt_of_cell (hc i hi)))⟩
theorem Tl.strs {P : Nat → Prop} {w : World} {p : Option Addr} {n c : Nat} {l : Row} (h : Tl P w (.slice p n c) l) : Strs w p l := fun hne => by
  obtain ⟨g, o, h1, h2, h3, h4⟩ := h.cells 0 (List.length_pos_iff.2 hne)
  exact ⟨g, o, h1, h4⟩
/-- texts that came in are put behind an own row -/
theorem Own.app0 {B : Nat} {W : World} {v : Value} {l : Row} (h : Own B W v l) (hB : B ≤ W.heap.size) (p : Option Addr) (c : Nat) (m : Row) (hS : Strs W p m) (hn : p = none → c = 0) (hmc : m.length ≤ c) (hl : l.length + m.length ≤ 4000000) :
    ∃ v' W', (Builtin.append_ #[30, 30] 30 #[v, .slice p m.length c]).run Tryd.prog W = .ok v' W' ∧ Own B W' v' (l ++ m) ∧ Below B W W' := by
  by_cases hm : m = []
  · subst hm
    cases p with
    | none =>
      rw [hn rfl]
      exact ⟨v, W, append_none h, by simpa [Own] using h, Below.refl _ _⟩
    | some a =>
      obtain ⟨i0, hi, hz0, hz1, hz2⟩ := info_parts infoS
      obtain ⟨v', w', hrun, ho, hgr, _⟩ := run_append_own (P := Tryd.prog) W B 30 30 9 i0 (.string ⟨#[]⟩) 1 16 Tryd.underlying30 hi hz0 hz1 hz2 rfl (by decide) _ _ _ h a 0 c [] rfl
        (fun j u' hj => by simp at hj) (fun u' hu' => by cases hu') (by unfold maxLen; simp at hl; omega) (by simp at hl; omega) hB
      refine ⟨v', w', hrun, ?_, (Below.refl B W).grown hgr hB (fun k hk => (World.ownsRow.lt h k hk).1)⟩
      show w'.ownsRow B 9 1 v' (l ++ []).length ((l ++ []).map txt)
      simpa using ho
  · obtain ⟨b, o, rfl, hc'⟩ := hS hm
    have hp : 0 < m.length := List.length_pos_iff.2 hm
    exact h.app (P := fun _ => True) hB (.inr ⟨b, o, c, rfl, hmc, trivial, block_lt_of_cell (hc' 0 hp), hc'⟩) hl
/-- a row that may be read: texts that came in, or that were told -/
structure Rd (w : World) (p : Option Addr) (c : Nat) (l : Row) : Prop where
  strs : Strs w p l
  nil : p = none → c = 0
  cap : l.length ≤ c
theorem Rd.below {w w' : World} {p : Option Addr} {c : Nat} {l : Row} (h : Rd w p c l) (k : Below w.heap.size w w') : Rd w' p c l := ⟨h.strs.below k, h.nil, h.cap⟩
theorem Own.rd {B : Nat} {w : World} {p : Option Addr} {n c : Nat} {l : Row} (h : Own B w (.slice p n c) l) : Rd w p c l := by
  have ht := h.tl (P := fun _ => True) (fun _ _ => trivial)
  refine ⟨ht.strs, fun hp => ?_, ?_⟩
  · rcases h.2 with ⟨h1, h0⟩ | ⟨g, cap, cur, h1, _⟩
    · injection h1
    · injection h1 with h1
      rw [hp] at h1; cases h1
  · obtain ⟨p', c', h1, h2⟩ := h.shape
    injection h1 with _ _ h3
    omega
theorem Rd.nilRow (w : World) : Rd w none 0 [] := ⟨fun h => absurd rfl h, fun _ => rfl, Nat.le_refl _⟩
theorem Own.base {B B' : Nat} {w : World} {v : Value} {l : Row} (h : Own B' w v l) (hb : B ≤ B') : Own B w v l := by
  refine ⟨h.1, ?_⟩
  rcases h.2 with h | ⟨g, cap, cur, h1, h2, h3⟩
  · exact .inl h
  · exact .inr ⟨g, cap, cur, h1, Nat.le_trans hb h2, h3⟩

end Go.Proofs.YtppgifaegnmciaaDoor
