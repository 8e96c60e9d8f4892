/- Names put in an order: plain mathematics. -/
import Derived.Test.YtphegggekcjenaaDoorModel
namespace Go.Proofs.YtphegggekcjenaaDoor

/-- the dict behind so many names, each with a sign ahead of itself for its value -/
def ordD (l : List Nm) : Nat → DM Nm
  | 0 => newD
  | i + 1 => putD (ordD l i) (l.getD i []) (118 :: l.getD i [])
theorem ord_srt (l : List Nm) : ∀ i, Srt (ordD l i).L
  | 0 => Srt.nil
  | i + 1 => by show Srt (putD _ _ _).L; rw [putD_L]; exact (ord_srt l i).put _ _
theorem ord_small (l : List Nm) : ∀ i, Small i (ordD l i)
  | 0 => Small.new
  | i + 1 => (ord_small l i).put _ _
theorem ord_mem (l : List Nm) : ∀ i x, x ∈ (ordD l i).L ↔ ∃ j, j < i ∧ x = (l.getD j [], 118 :: l.getD j [])
  | 0, x => by simp [ordD, newD]
  | i + 1, x => by
    show x ∈ (putD _ _ _).L ↔ _
    rw [putD_L, put1_mem, ord_mem l i]
    constructor
    · rintro (h | ⟨⟨j, hj, rfl⟩, _⟩)
      · exact ⟨i, by omega, h⟩
      · exact ⟨j, by omega, rfl⟩
    · rintro ⟨j, hj, rfl⟩
      by_cases e : l.getD j [] = l.getD i []
      · exact .inl (by rw [e])
      · exact .inr ⟨⟨j, by have : j ≠ i := fun h => e (by rw [h]); omega, rfl⟩, e⟩
theorem ord_all (l : List Nm) (x : Nm × Nm) : x ∈ (ordD l l.length).L ↔ ∃ s, s ∈ l ∧ x = (s, 118 :: s) := by
  rw [ord_mem]
  constructor
  · rintro ⟨j, hj, rfl⟩
    exact ⟨_, by rw [show l.getD j [] = l[j] by simp [List.getD, hj]]; exact List.getElem_mem hj, rfl⟩
  · rintro ⟨s, hs, rfl⟩
    obtain ⟨j, hj, rfl⟩ := List.mem_iff_getElem.1 hs
    exact ⟨j, hj, by simp [List.getD, hj]⟩
/-- the order is not seen -/
theorem ord_same {l m : List Nm} (h : l.Perm m) : (ordD l l.length).L = (ordD m m.length).L :=
  Srt.ext (ord_srt _ _) (ord_srt _ _) fun x => by
    rw [ord_all, ord_all]
    constructor
    · rintro ⟨s, hs, e⟩; exact ⟨s, h.mem_iff.1 hs, e⟩
    · rintro ⟨s, hs, e⟩; exact ⟨s, h.mem_iff.2 hs, e⟩
theorem ord_get {l : List Nm} {s : Nm} (h : s ∈ l) : getL s (ordD l l.length).L = some (118 :: s) := (getL_mem (ord_srt _ _)).2 ((ord_all l _).2 ⟨s, h, rfl⟩)
/-- two are changed about -/
def swp (l : List Nm) (i j : Nat) : List Nm := (l.set i (l.getD j [])).set j (l.getD i [])
theorem swp_perm (l : List Nm) (i j : Nat) (hi : i < l.length) (hj : j < l.length) : (swp l i j).Perm l := by
  unfold swp
  rw [show l.getD j [] = l[j] by simp [List.getD, hj], show l.getD i [] = l[i] by simp [List.getD, hi]]
  exact List.set_set_perm hi hj

end Go.Proofs.YtphegggekcjenaaDoor
