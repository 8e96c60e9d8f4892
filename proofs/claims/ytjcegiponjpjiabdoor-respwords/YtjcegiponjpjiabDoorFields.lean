/- The words of a line: plain mathematics on lists of bytes. -/
import Derived.Test.YtjcegiponjpjiabDoorSuffix
namespace Go.Proofs.YtjcegiponjpjiabDoor

/-- a blank or a tab -/
def blank (c : UInt8) : Bool := c == 32 || c == 9
/-- words, the first of them begun with cur -/
def fieldsGo : List UInt8 → List UInt8 → List (List UInt8)
  | cur, [] => if cur = [] then [] else [cur]
  | cur, c :: r => if blank c = true then (if cur = [] then fieldsGo [] r else cur :: fieldsGo [] r) else fieldsGo (cur ++ [c]) r
def fields (l : List UInt8) : List (List UInt8) := fieldsGo [] l
theorem fields_blank {cur r : List UInt8} {c : UInt8} (h : blank c = true) : fieldsGo cur (c :: r) = (if cur = [] then [] else [cur]) ++ fieldsGo [] r := by
  simp only [fieldsGo, h, if_true]
  by_cases e : cur = []
  · simp [e]
  · simp [e]
theorem fields_more {cur r : List UInt8} {c : UInt8} (h : blank c = false) : fieldsGo cur (c :: r) = fieldsGo (cur ++ [c]) r := by simp [fieldsGo, h]
/-- what lies between two places -/
def cutOut (l : List UInt8) (a b : Nat) : List UInt8 := (l.take b).drop a
theorem cutOut_next {l : List UInt8} {a b : Nat} (h : b < l.length) (hab : a ≤ b) : cutOut l a (b + 1) = cutOut l a b ++ [l[b]] := by
  unfold cutOut
  rw [List.take_succ_eq_append_getElem h, List.drop_append_of_le_length (by simp; omega)]
theorem cutOut_none (l : List UInt8) (a : Nat) : cutOut l a a = [] := by
  unfold cutOut
  exact List.drop_eq_nil_of_le (by simp; omega)
theorem cutOut_len {l : List UInt8} {a b : Nat} (h : b ≤ l.length) : (cutOut l a b).length = b - a := by
  unfold cutOut
  simp; omega
/-- how far the words are read at i, those behind being begun at a -/
def Read (l : List UInt8) (a i : Nat) (acc : List (List UInt8)) : Prop := fields l = acc ++ fieldsGo (cutOut l a i) (l.drop i)
theorem read_first (l : List UInt8) : Read l 0 0 [] := by unfold Read fields cutOut; simp
theorem read_blank {l : List UInt8} {a i : Nat} {acc : List (List UInt8)} (h : Read l a i acc) (hi : i < l.length) (hb : blank l[i] = true) : Read l (i + 1) (i + 1) (acc ++ if cutOut l a i = [] then [] else [cutOut l a i]) := by
  unfold Read at *
  rw [h, List.drop_eq_getElem_cons hi, fields_blank hb, cutOut_none, List.append_assoc]
theorem read_more {l : List UInt8} {a i : Nat} {acc : List (List UInt8)} (h : Read l a i acc) (hi : i < l.length) (ha : a ≤ i) (hb : blank l[i] = false) : Read l a (i + 1) acc := by
  unfold Read at *
  rw [h, List.drop_eq_getElem_cons hi, fields_more hb, cutOut_next hi ha]
theorem read_last {l : List UInt8} {a : Nat} {acc : List (List UInt8)} (h : Read l a l.length acc) : fields l = acc ++ if cutOut l a l.length = [] then [] else [cutOut l a l.length] := by
  unfold Read at h
  rw [h, List.drop_length]
  rfl
/-- how many bytes of a line count: not its 10, nor a 13 just ahead of it -/
def bodyLen (l : List UInt8) : Nat := if 1 < l.length ∧ l[l.length - 2]? = some 13 then l.length - 2 else l.length - 1
theorem bodyLen_le (l : List UInt8) : bodyLen l ≤ l.length := by unfold bodyLen; split <;> omega
theorem suffix_one {l : List UInt8} {c : UInt8} : Lib.hasSuffix l [c] = true ↔ l ≠ [] ∧ l[l.length - 1]? = some c := by
  unfold Lib.hasSuffix
  rw [List.isSuffixOf_iff_suffix, List.suffix_iff_eq_drop]
  cases hl : l.reverse with
  | nil =>
    have : l = [] := by simpa using hl
    subst this; simp
  | cons x r =>
    have e : l = r.reverse ++ [x] := by rw [← List.reverse_reverse l, hl]; simp
    subst e
    have h1 : (r.reverse ++ [x]).length = r.length + 1 := by simp
    have h2 : (r.reverse ++ [x]).drop r.length = [x] := by
      rw [List.drop_append_of_le_length (by simp), List.drop_eq_nil_of_le (by simp)]; rfl
    have h3 : (r.reverse ++ [x])[r.length]? = some x := by
      rw [List.getElem?_append_right (by simp)]; simp
    rw [h1]
    simp only [List.length_cons, List.length_nil, Nat.zero_add, Nat.add_sub_cancel, h2, h3]
    constructor
    · intro h; injection h with h _; exact ⟨by simp, by rw [h]⟩
    · intro ⟨_, h⟩; injection h with h; rw [h]
/-- the words of a line -/
def words (l : List UInt8) : List (List UInt8) := fields (l.take (bodyLen l))

end Go.Proofs.YtjcegiponjpjiabDoor
