/- The commands, as plain data: the chapter's rows; names with great letters; what Find tells. -/
import Derived.WalkKit
namespace Go.Proofs.Ytndmhfhihajbdaa

abbrev Nm := List UInt8
/-- a command -/
structure Sp where
  nm : Nm
  le : Int
  mo : Int
  fi : Int
  la : Int
  st : Int
  wr : Bool
def zeroSp : Sp := ⟨[], 0, 0, 0, 0, 0, false⟩
/-- its cells -/
def Sp.cl (s : Sp) : List Value := [.string ⟨s.nm.toArray⟩, .int .i64 s.le, .int .i64 s.mo, .int .i64 s.fi, .int .i64 s.la, .int .i64 s.st, .bool s.wr]
def Sp.cs (s : Sp) : Array Value := #[.string ⟨s.nm.toArray⟩, .int .i64 s.le, .int .i64 s.mo, .int .i64 s.fi, .int .i64 s.la, .int .i64 s.st, .bool s.wr]
theorem Sp.cs_eq (s : Sp) : s.cs = s.cl.toArray := rfl
def allL : List Sp := [
  ⟨[80, 73, 78, 71], 0, 0, 0, 0, 0, false⟩,
  ⟨[69, 67, 72, 79], 1, 1, 0, 0, 0, false⟩,
  ⟨[71, 69, 84], 1, 1, 1, 1, 1, false⟩,
  ⟨[83, 69, 84], 2, 2, 1, 1, 1, true⟩,
  ⟨[68, 69, 76], 1, 31, 1, -1, 1, true⟩,
  ⟨[69, 88, 73, 83, 84, 83], 1, 31, 1, -1, 1, false⟩,
  ⟨[84, 89, 80, 69], 1, 1, 1, 1, 1, false⟩,
  ⟨[65, 80, 80, 69, 78, 68], 2, 2, 1, 1, 1, true⟩,
  ⟨[83, 84, 82, 76, 69, 78], 1, 1, 1, 1, 1, false⟩,
  ⟨[73, 78, 67, 82, 66, 89], 2, 2, 1, 1, 1, true⟩,
  ⟨[77, 71, 69, 84], 1, 31, 1, -1, 1, false⟩,
  ⟨[77, 83, 69, 84], 2, 31, 1, -1, 2, true⟩,
  ⟨[72, 83, 69, 84], 3, 31, 1, 1, 1, true⟩,
  ⟨[72, 71, 69, 84], 2, 2, 1, 1, 1, false⟩,
  ⟨[72, 68, 69, 76], 2, 31, 1, 1, 1, true⟩,
  ⟨[72, 76, 69, 78], 1, 1, 1, 1, 1, false⟩,
  ⟨[72, 65, 76, 76], 1, 1, 1, 1, 1, false⟩,
  ⟨[76, 80, 85, 83, 72], 2, 31, 1, 1, 1, true⟩,
  ⟨[82, 80, 85, 83, 72], 2, 31, 1, 1, 1, true⟩,
  ⟨[76, 80, 79, 80], 1, 1, 1, 1, 1, true⟩,
  ⟨[82, 80, 79, 80], 1, 1, 1, 1, 1, true⟩,
  ⟨[76, 76, 69, 78], 1, 1, 1, 1, 1, false⟩,
  ⟨[76, 73, 78, 68, 69, 88], 2, 2, 1, 1, 1, false⟩,
  ⟨[76, 82, 65, 78, 71, 69], 3, 3, 1, 1, 1, false⟩,
  ⟨[76, 84, 82, 73, 77], 3, 3, 1, 1, 1, true⟩,
  ⟨[83, 65, 68, 68], 2, 31, 1, 1, 1, true⟩,
  ⟨[83, 82, 69, 77], 2, 31, 1, 1, 1, true⟩,
  ⟨[83, 72, 65, 83], 2, 2, 1, 1, 1, false⟩,
  ⟨[83, 65, 76, 76], 1, 1, 1, 1, 1, false⟩,
  ⟨[83, 67, 65, 82, 68], 1, 1, 1, 1, 1, false⟩,
  ⟨[83, 85, 78, 73, 79, 78], 1, 31, 1, -1, 1, false⟩,
  ⟨[83, 73, 78, 84, 69, 82], 1, 31, 1, -1, 1, false⟩,
  ⟨[83, 68, 73, 70, 70], 1, 31, 1, -1, 1, false⟩,
  ⟨[80, 83, 69, 84], 2, 2, 1, 1, 1, true⟩,
  ⟨[80, 71, 69, 84], 1, 1, 1, 1, 1, false⟩,
  ⟨[80, 65, 68, 68], 2, 2, 1, 1, 1, true⟩,
  ⟨[80, 77, 85, 76], 2, 2, 1, 1, 1, true⟩,
  ⟨[80, 84, 85, 82, 78], 2, 2, 1, 1, 1, true⟩,
  ⟨[80, 78, 79, 82, 77], 1, 1, 1, 1, 1, false⟩,
  ⟨[69, 88, 80, 73, 82, 69], 2, 2, 1, 1, 1, true⟩,
  ⟨[84, 84, 76], 1, 1, 1, 1, 1, false⟩,
  ⟨[80, 69, 82, 83, 73, 83, 84], 1, 1, 1, 1, 1, true⟩,
  ⟨[68, 85, 77, 80], 1, 1, 1, 1, 1, false⟩,
  ⟨[82, 69, 83, 84, 79, 82, 69], 3, 3, 1, 1, 1, true⟩,
  ⟨[75, 69, 89, 83, 76, 79, 84], 1, 1, 0, 0, 0, false⟩,
  ⟨[67, 79, 85, 78, 84], 1, 1, 0, 0, 0, false⟩,
  ⟨[75, 69, 89, 83], 2, 2, 0, 0, 0, false⟩]
def rowsL : List Sp := zeroSp :: allL
def flat (l : List Sp) : List Value := l.flatMap Sp.cl
def rowCells : Array Value := (flat rowsL).toArray
def allCells : Array Value := (flat allL).toArray
theorem allL_len : allL.length = 47 := by decide
theorem rowsL_len : rowsL.length = 48 := by decide
theorem flat_len : ∀ l : List Sp, (flat l).length = l.length * 7
  | [] => rfl
  | s :: r => by
    have := flat_len r
    simp only [flat, List.flatMap_cons, List.length_append, List.length_cons] at this ⊢
    rw [this]
    simp [Sp.cl]
    omega
theorem flat_cons (s : Sp) (l : List Sp) : flat (s :: l) = s.cl ++ flat l := rfl
theorem flat_append (l m : List Sp) : flat (l ++ m) = flat l ++ flat m := by simp [flat]
/-- one command's cells among all -/
theorem flat_at : ∀ (l : List Sp) (i : Nat) (h : i < l.length), ((flat l).drop (i * 7)).take 7 = l[i].cl
  | s :: r, 0, _ => by simp [flat_cons, Sp.cl]
  | s :: r, i + 1, h => by
    have := flat_at r i (by simpa using h)
    rw [flat_cons, show (i + 1) * 7 = s.cl.length + i * 7 by simp [Sp.cl]; omega, ← List.drop_drop, List.drop_left, List.getElem_cons_succ]
    exact this
theorem flat_get (l : List Sp) (i j : Nat) (h : i < l.length) (hj : j < 7) : (flat l)[i * 7 + j]? = l[i].cl[j]? := by
  rw [← flat_at l i h, List.getElem?_take_of_lt hj, List.getElem?_drop]
/-- A to Z for a to z -/
def up (c : UInt8) : UInt8 := if 97 ≤ c ∧ c ≤ 122 then c - 32 else c
def great (n : Nm) : Nm := n.map up
/-- where the command of a name stands among the rows -/
def place (g : Nm) : Nat := match allL.findIdx? (fun s => s.nm == g) with
  | some i => i + 1
  | none => 0
theorem place_lt (g : Nm) : place g < rowsL.length := by
  unfold place
  cases h : allL.findIdx? (fun s => s.nm == g) with
  | none => decide
  | some i =>
    have := (List.findIdx?_eq_some_iff_getElem.1 h).1
    show i + 1 < (zeroSp :: allL).length
    rw [List.length_cons]; omega
def spec (g : Nm) : Sp := (rowsL[place g]?).getD zeroSp
def known (g : Nm) : Bool := decide (place g ≠ 0)
theorem spec_eq (g : Nm) : spec g = rowsL[place g]'(place_lt g) := by simp [spec, place_lt g]
theorem great_names : ∀ s ∈ allL, great s.nm = s.nm := by decide
theorem up_up (c : UInt8) : up (up c) = up c := by
  have : ∀ c : BitVec 8, up (up ⟨c⟩) = up ⟨c⟩ := by decide +kernel
  exact this c.toBitVec
theorem great_great (n : Nm) : great (great n) = great n := by simp [great, Function.comp_def, up_up]

end Go.Proofs.Ytndmhfhihajbdaa
