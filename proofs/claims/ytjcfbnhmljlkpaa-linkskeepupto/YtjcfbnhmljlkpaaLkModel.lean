/- Letters on their way, as plain mathematics. -/
import Derived.Test.YtjcfbnhmljlkpaaRep
namespace Go.Proofs.Ytjcfbnhmljlkpaa

/-- a letter -/
structure Lt where
  kind : Int
  number : Int
  slot : Int
  ends : Int
  key : List UInt8
  text : List UInt8
  args : List (List UInt8)
  reply : Rep
  good : Bool
  asking : Int
/-- a letter on its way -/
structure Wy where
  frm : Int
  dst : Int
  x : Lt
/-- are those the ends? -/
def isOn (f t : Int) (y : Wy) : Bool := decide (y.frm = f) && decide (y.dst = t)
/-- what is on a link, in order -/
def onV : List Wy → Int → Int → List Lt
  | [], _, _ => []
  | y :: l, f, t => if isOn f t y = true then y.x :: onV l f t else onV l f t
/-- without the first of a link -/
def cutV : List Wy → Int → Int → List Wy
  | [], _, _ => []
  | y :: l, f, t => if isOn f t y = true then l else y :: cutV l f t
theorem onV_app (a b : List Wy) (f t : Int) : onV (a ++ b) f t = onV a f t ++ onV b f t := by
  induction a with
  | nil => rfl
  | cons y a ih =>
    simp only [List.cons_append, onV, ih]
    split <;> rfl
theorem onV_send (l : List Wy) (f t : Int) (x : Lt) (g u : Int) : onV (l ++ [⟨f, t, x⟩]) g u = if g = f ∧ u = t then onV l g u ++ [x] else onV l g u := by
  rw [onV_app]
  simp only [onV, isOn, Bool.and_eq_true, decide_eq_true_eq]
  by_cases h : g = f ∧ u = t
  · obtain ⟨rfl, rfl⟩ := h
    simp
  · rw [if_neg h, if_neg (fun e => h ⟨e.1.symm, e.2.symm⟩)]
    simp
theorem onV_cut (l : List Wy) (f t g u : Int) : onV (cutV l f t) g u = if g = f ∧ u = t then (onV l g u).tail else onV l g u := by
  induction l with
  | nil => simp [cutV, onV]
  | cons y l ih =>
    simp only [cutV]
    by_cases hy : isOn f t y = true
    · rw [if_pos hy]
      by_cases h : g = f ∧ u = t
      · obtain ⟨rfl, rfl⟩ := h
        rw [if_pos ⟨rfl, rfl⟩]
        simp [onV, hy]
      · rw [if_neg h]
        have hy2 : isOn g u y = false := by
          cases e : isOn g u y with
          | false => rfl
          | true =>
            simp only [isOn, Bool.and_eq_true, decide_eq_true_eq] at hy e
            exact absurd ⟨by omega, by omega⟩ h
        simp [onV, hy2]
    · rw [if_neg hy]
      by_cases h : g = f ∧ u = t
      · obtain ⟨rfl, rfl⟩ := h
        rw [if_pos ⟨rfl, rfl⟩] at ih ⊢
        simp only [onV, if_neg hy, ih]
      · rw [if_neg h] at ih ⊢
        simp only [onV, ih]
theorem cutV_none {l : List Wy} {f t : Int} (h : onV l f t = []) : cutV l f t = l := by
  induction l with
  | nil => rfl
  | cons y l ih =>
    simp only [onV] at h
    by_cases hy : isOn f t y = true
    · rw [if_pos hy] at h; cases h
    · rw [if_neg hy] at h
      simp only [cutV, if_neg hy, ih h]
/-- is a link ahead of another one? -/
def befV (a b : Int × Int) : Bool := decide (a.1 < b.1) || (decide (a.1 = b.1) && decide (a.2 < b.2))
theorem befV_iff (a b : Int × Int) : befV a b = true ↔ a.1 < b.1 ∨ (a.1 = b.1 ∧ a.2 < b.2) := by simp [befV]
/-- a link put in its place -/
def insV (p : Int × Int) : List (Int × Int) → List (Int × Int)
  | [] => [p]
  | q :: r => if q = p then q :: r else if befV p q = true then p :: q :: r else q :: insV p r
def pairsV (l : List Wy) : List (Int × Int) := l.foldl (fun a y => insV (y.frm, y.dst) a) []
/-- rising -/
def RisV : List (Int × Int) → Prop
  | [] => True
  | p :: r => (∀ q ∈ r, befV p q = true) ∧ RisV r
theorem insV_mem (p : Int × Int) : ∀ (l : List (Int × Int)) (q : Int × Int), q ∈ insV p l ↔ q = p ∨ q ∈ l
  | [], q => by simp [insV]
  | x :: r, q => by
    simp only [insV]
    by_cases h : x = p
    · rw [if_pos h]; subst h; simp
    · rw [if_neg h]
      by_cases hb : befV p x = true
      · rw [if_pos hb]; simp
      · rw [if_neg hb]
        simp only [List.mem_cons, insV_mem p r q]
        constructor
        · rintro (h | h | h)
          · exact .inr (.inl h)
          · exact .inl h
          · exact .inr (.inr h)
        · rintro (h | h | h)
          · exact .inr (.inl h)
          · exact .inl h
          · exact .inr (.inr h)
theorem insV_ris (p : Int × Int) : ∀ l : List (Int × Int), RisV l → RisV (insV p l)
  | [], _ => ⟨fun q h => by simp at h, trivial⟩
  | x :: r, h => by
    simp only [insV]
    by_cases hx : x = p
    · rw [if_pos hx]; exact h
    · rw [if_neg hx]
      by_cases hb : befV p x = true
      · rw [if_pos hb]
        refine ⟨fun q hq => ?_, h⟩
        rcases List.mem_cons.1 hq with rfl | hq
        · exact hb
        · have h2 := h.1 q hq
          rw [befV_iff] at hb h2 ⊢
          omega
      · rw [if_neg hb]
        refine ⟨fun q hq => ?_, insV_ris p r h.2⟩
        rcases (insV_mem p r q).1 hq with rfl | hq
        · rw [befV_iff] at hb ⊢
          have hne : ¬ (x.1 = q.1 ∧ x.2 = q.2) := fun e => hx (Prod.ext e.1 e.2)
          omega
        · exact h.1 q hq
theorem ris_ext : ∀ {a b : List (Int × Int)}, RisV a → RisV b → (∀ q, q ∈ a ↔ q ∈ b) → a = b
  | [], [], _, _, _ => rfl
  | [], y :: b, _, _, h => absurd ((h y).2 (by simp)) (by simp)
  | x :: a, [], _, _, h => absurd ((h x).1 (by simp)) (by simp)
  | x :: a, y :: b, h1, h2, h => by
    have hxy : x = y := by
      rcases List.mem_cons.1 ((h x).1 (by simp)) with e | e
      · exact e
      rcases List.mem_cons.1 ((h y).2 (by simp)) with e2 | e2
      · exact e2.symm
      have p1 := h2.1 x e
      have p2 := h1.1 y e2
      rw [befV_iff] at p1 p2
      omega
    subst hxy
    have irr : ∀ z : Int × Int, befV z z ≠ true := fun z e => by rw [befV_iff] at e; omega
    rw [ris_ext h1.2 h2.2 (fun q => ?_)]
    constructor
    · intro hq
      rcases List.mem_cons.1 ((h q).1 (by simp [hq])) with rfl | e
      · exact absurd (h1.1 q hq) (irr q)
      · exact e
    · intro hq
      rcases List.mem_cons.1 ((h q).2 (by simp [hq])) with rfl | e
      · exact absurd (h2.1 q hq) (irr q)
      · exact e
theorem pairs_fold : ∀ (l : List Wy) (a : List (Int × Int)), RisV a → RisV (l.foldl (fun a y => insV (y.frm, y.dst) a) a) ∧ ∀ q, q ∈ l.foldl (fun a y => insV (y.frm, y.dst) a) a ↔ q ∈ a ∨ onV l q.1 q.2 ≠ []
  | [], a, h => ⟨h, fun q => by simp [onV]⟩
  | y :: l, a, h => by
    obtain ⟨h1, h2⟩ := pairs_fold l (insV (y.frm, y.dst) a) (insV_ris _ a h)
    refine ⟨h1, fun q => ?_⟩
    show q ∈ l.foldl _ (insV (y.frm, y.dst) a) ↔ _
    rw [h2, insV_mem]
    simp only [onV, isOn, Bool.and_eq_true, decide_eq_true_eq]
    by_cases e : y.frm = q.1 ∧ y.dst = q.2
    · rw [if_pos e]
      constructor
      · intro _; exact .inr (by simp)
      · intro _; exact .inl (.inl (Prod.ext e.1.symm e.2.symm))
    · rw [if_neg e]
      constructor
      · rintro ((h | h) | h)
        · exact absurd ⟨by rw [h], by rw [h]⟩ e
        · exact .inl h
        · exact .inr h
      · rintro (h | h)
        · exact .inl (.inr h)
        · exact .inr h
theorem pairsV_ris (l : List Wy) : RisV (pairsV l) := (pairs_fold l [] trivial).1
theorem pairsV_mem (l : List Wy) (q : Int × Int) : q ∈ pairsV l ↔ onV l q.1 q.2 ≠ [] := by
  have := (pairs_fold l [] trivial).2 q
  simpa [pairsV] using this

end Go.Proofs.Ytjcfbnhmljlkpaa
