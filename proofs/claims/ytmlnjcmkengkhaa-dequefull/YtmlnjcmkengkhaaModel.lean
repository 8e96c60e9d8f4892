/- A row as a list, and what each call does to it: plain mathematics. -/
import Derived.Test.YtmlnjcmkengkhaaClamp
import Derived.Test.YtmlnjcmkengkhaaMem
namespace Go.Proofs.Ytmlnjcmkengkhaa

/-- the place that is meant -/
def spot (n : Nat) (i : Int) : Option Nat := if i < 0 then (if 0 ≤ i + n then some (i + n).toNat else none) else if i < n then some i.toNat else none
theorem spot_lt {n : Nat} {i : Int} {k : Nat} (h : spot n i = some k) : k < n ∧ ((i < 0 ∧ (k : Int) = i + n) ∨ (0 ≤ i ∧ (k : Int) = i)) := by
  unfold spot at h
  split at h
  · split at h
    · injection h with h; omega
    · cases h
  · split at h
    · injection h with h; omega
    · cases h
theorem spot_no {n : Nat} {i : Int} (h : spot n i = none) : (i < 0 ∧ i + n < 0) ∨ (0 ≤ i ∧ (n : Int) ≤ i) := by
  unfold spot at h
  split at h
  · split at h
    · cases h
    · omega
  · split at h
    · cases h
    · omega
/-- the calls, on a list -/
def pushL (l : Row) (front : Bool) (s : List UInt8) : Row := if 256 ≤ l.length then l else if front then s :: l else l ++ [s]
def pushB (l : Row) : Bool := decide (l.length < 256)
def popL (l : Row) (front : Bool) : Row := if front then l.tail else l.dropLast
def popS (l : Row) (front : Bool) : List UInt8 := if front then l.headD [] else l.getLastD []
def popB (l : Row) : Bool := !l.isEmpty
def atS (l : Row) (i : Int) : List UInt8 := match spot l.length i with | some k => l.getD k [] | none => []
def atB (l : Row) (i : Int) : Bool := (spot l.length i).isSome
def putL (l : Row) (i : Int) (s : List UInt8) : Row := match spot l.length i with | some k => l.set k s | none => l
def rangeL (l : Row) (f t : Int) : Row := (l.drop (clA f t l.length).toNat).take ((clB f t l.length).toNat - (clA f t l.length).toNat)
/-- a call -/
structure OpL where
  kind : Int
  a : Int
  b : Int
  front : Bool
  s : List UInt8
/-- what it tells -/
structure Ans where
  s : List UInt8
  is : Bool
  list : Row
def doR (l : Row) (o : OpL) : Row :=
  if o.kind = 0 then pushL l o.front o.s else if o.kind = 1 then popL l o.front else if o.kind = 3 then putL l o.a o.s else if o.kind = 5 then rangeL l o.a o.b else l
def doA (l : Row) (o : OpL) : Ans :=
  if o.kind = 0 then ⟨[], pushB l, []⟩ else if o.kind = 1 then ⟨popS l o.front, popB l, []⟩ else if o.kind = 2 then ⟨atS l o.a, atB l o.a, []⟩ else if o.kind = 3 then ⟨[], atB l o.a, []⟩ else if o.kind = 4 then ⟨[], false, rangeL l o.a o.b⟩ else ⟨[], false, []⟩
/-- calls, one behind the other -/
def runL (l : Row) (os : List OpL) : Row := os.foldl doR l
theorem runL_snoc (l : Row) (os : List OpL) (o : OpL) : runL l (os ++ [o]) = doR (runL l os) o := by simp [runL]
theorem range_bounds (l : Row) (f t : Int) : (clA f t l.length).toNat ≤ (clB f t l.length).toNat ∧ (clB f t l.length).toNat ≤ l.length ∧ 0 ≤ clA f t l.length ∧ 0 ≤ clB f t l.length := by
  have hf : 0 ≤ fstP f l.length := by unfold fstP; split <;> omega
  have ht : lstP t l.length ≤ (l.length : Int) - 1 := by unfold lstP; split <;> omega
  by_cases hm : (l.length : Int) < 1
  · rw [show clA f t l.length = 0 from if_pos hm, show clB f t l.length = 0 from if_pos hm]
    omega
  · rw [show clA f t l.length = if lstP t l.length < fstP f l.length then 0 else fstP f l.length from if_neg hm, show clB f t l.length = if lstP t l.length < fstP f l.length then 0 else lstP t l.length + 1 from if_neg hm]
    by_cases hc : lstP t l.length < fstP f l.length
    · rw [if_pos hc, if_pos hc]; omega
    · rw [if_neg hc, if_neg hc]; omega
theorem rangeL_len (l : Row) (f t : Int) : (rangeL l f t).length = (clB f t l.length).toNat - (clA f t l.length).toNat := by
  have := range_bounds l f t
  unfold rangeL
  simp
  omega
theorem rangeL_le (l : Row) (f t : Int) : (rangeL l f t).length ≤ l.length := by
  rw [rangeL_len]; have := range_bounds l f t; omega
/-- all of a row -/
theorem rangeL_all (l : Row) : rangeL l 0 (-1) = l := by
  unfold rangeL
  by_cases h : (l.length : Int) < 1
  · have : l = [] := List.length_eq_zero_iff.1 (by omega)
    subst this
    simp
  · have e1 : fstP 0 l.length = 0 := by simp [fstP, plc]
    have e2 : lstP (-1) l.length = l.length - 1 := by
      have : plc (-1) l.length = l.length - 1 := by unfold plc; rw [if_pos (by decide)]; omega
      unfold lstP; rw [this]; simp
    have ea : clA 0 (-1) l.length = 0 := by unfold clA; rw [e1, e2, if_neg h, if_neg (by omega)]
    have eb : clB 0 (-1) l.length = l.length := by unfold clB; rw [e1, e2, if_neg h, if_neg (by omega)]; omega
    rw [ea, eb]
    simp
theorem pushL_len (l : Row) (f : Bool) (s : List UInt8) (h : l.length ≤ 256) : (pushL l f s).length ≤ 256 := by
  unfold pushL
  split
  · exact h
  · cases f <;> simp <;> omega
theorem popL_len (l : Row) (f : Bool) (h : l.length ≤ 256) : (popL l f).length ≤ 256 := by
  unfold popL
  cases f <;> simp <;> omega
theorem putL_len (l : Row) (i : Int) (s : List UInt8) : (putL l i s).length = l.length := by
  unfold putL
  split
  · simp
  · rfl
theorem doR_len (l : Row) (o : OpL) (h : l.length ≤ 256) : (doR l o).length ≤ 256 := by
  unfold doR
  split
  · exact pushL_len l _ _ h
  · split
    · exact popL_len l _ h
    · split
      · rw [putL_len]; exact h
      · split
        · exact Nat.le_trans (rangeL_le l _ _) h
        · exact h
theorem runL_len (os : List OpL) : ∀ (l : Row), l.length ≤ 256 → (runL l os).length ≤ 256 := by
  induction os with
  | nil => intro l h; exact h
  | cons o os ih => intro l h; exact ih _ (doR_len l o h)

end Go.Proofs.Ytmlnjcmkengkhaa
