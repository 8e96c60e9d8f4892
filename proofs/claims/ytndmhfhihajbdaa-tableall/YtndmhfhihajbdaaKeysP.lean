/- Which arguments are keys: plain mathematics. -/
import Derived.Test.YtndmhfhihajbdaaRCheck
namespace Go.Proofs.Ytndmhfhihajbdaa
open Go.RowKit

/-- the texts at the places that p tells, the first being at the place k -/
def selL (p : Nat → Bool) : Nat → Row → Row
  | _, [] => []
  | k, x :: r => (if p k then [x] else []) ++ selL p (k + 1) r
/-- is the argument at the place i a key -/
def pk (s : Sp) (i : Nat) : Bool := decide (0 < s.fi) && decide (s.fi ≤ (i : Int)) && (decide ((i : Int) ≤ s.la) || decide (s.la = -1)) && decide (((i : Int) - s.fi).tmod s.st = 0)
def pks (l : Row) (i : Nat) : Bool := decide ((chk l).2 = 0) && pk (chk l).1 i
/-- what Keys tells -/
def keysL (l : Row) : Row := selL (pks l) 1 (l.drop 1)
theorem sel_yes {p : Nat → Bool} {l : Row} {k : Nat} (h : k < l.length) (hp : p k = true) : selL p k (l.drop k) = l[k] :: selL p (k + 1) (l.drop (k + 1)) := by
  rw [drop_step h, selL, if_pos hp]; rfl
theorem sel_no {p : Nat → Bool} {l : Row} {k : Nat} (h : k < l.length) (hp : p k = false) : selL p k (l.drop k) = selL p (k + 1) (l.drop (k + 1)) := by
  rw [drop_step h, selL, hp]; rfl
theorem sel_end {p : Nat → Bool} {l : Row} {k : Nat} (h : l.length ≤ k) : selL p k (l.drop k) = [] := by
  rw [List.drop_eq_nil_of_le h]; rfl
theorem sel_none {p : Nat → Bool} : ∀ (l : Row) (k : Nat), (∀ i, k ≤ i → p i = false) → selL p k l = []
  | [], _, _ => rfl
  | x :: r, k, h => by
    rw [selL, h k (Nat.le_refl _), sel_none r (k + 1) fun i hi => h i (by omega)]
    rfl
theorem sel_len {p : Nat → Bool} : ∀ (l : Row) (k : Nat), (selL p k l).length ≤ l.length
  | [], _ => Nat.le_refl _
  | x :: r, k => by
    have := sel_len (p := p) r (k + 1)
    rw [selL, List.length_append, List.length_cons]
    split <;> simp <;> omega
theorem keys_len (l : Row) : (keysL l).length ≤ l.length := by
  have := sel_len (p := pks l) (l.drop 1) 1
  rw [List.length_drop] at this
  exact Nat.le_trans this (Nat.sub_le _ _)
/-- what Check tells: nothing, or a command that fits -/
theorem chk_cases (l : Row) : ((chk l).1 = zeroSp ∧ (chk l).2 ≠ 0) ∨ ((chk l).2 = 0 ∧ okB (chk l).1 = true ∧ (chk l).1.le ≤ (l.length : Int) - 1) := by
  cases l with
  | nil => exact .inl ⟨rfl, by decide⟩
  | cons n r =>
    rw [chk]
    split
    · split
      · rename_i h1 h2
        refine .inr ⟨rfl, ok_spec _, ?_⟩
        simp only [fitsM, Bool.and_eq_true, decide_eq_true_eq] at h2
        exact h2.1.1
      · exact .inl ⟨rfl, by decide⟩
    · exact .inl ⟨rfl, by decide⟩
theorem pk_zero (i : Nat) {nm : Nm} {le mo : Int} {wr : Bool} : pk ⟨nm, le, mo, 0, 0, 0, wr⟩ i = false := by simp [pk]
theorem pk_one {i : Nat} (h : 1 ≤ i) {nm : Nm} {le mo : Int} {wr : Bool} : pk ⟨nm, le, mo, 1, 1, 1, wr⟩ i = decide (i = 1) := by
  simp only [pk, Int.tmod_one]
  by_cases e : i = 1
  · subst e; rfl
  · rw [decide_eq_false e, decide_eq_false (p := (i : Int) ≤ 1) (by omega)]; simp
theorem pk_all {i : Nat} (h : 1 ≤ i) {nm : Nm} {le mo : Int} {wr : Bool} : pk ⟨nm, le, mo, 1, -1, 1, wr⟩ i = true := by
  simp only [pk, Int.tmod_one, decide_eq_true (p := (1 : Int) ≤ i) (by omega)]; simp
theorem pk_two {i : Nat} (h : 1 ≤ i) {nm : Nm} {le mo : Int} {wr : Bool} : pk ⟨nm, le, mo, 1, -1, 2, wr⟩ i = decide (i % 2 = 1) := by
  simp only [pk, decide_eq_true (p := (1 : Int) ≤ i) (by omega)]
  have : ((i : Int) - 1).tmod 2 = ((i - 1 : Nat) % 2 : Nat) := by
    rw [show (i : Int) - 1 = ((i - 1 : Nat) : Int) by omega]
    rfl
  rw [this]
  by_cases e : i % 2 = 1
  · rw [decide_eq_true e, decide_eq_true (p := (((i - 1) % 2 : Nat) : Int) = 0) (by omega)]; simp
  · rw [decide_eq_false e, decide_eq_false (p := (((i - 1) % 2 : Nat) : Int) = 0) (by omega)]; simp

end Go.Proofs.Ytndmhfhihajbdaa
