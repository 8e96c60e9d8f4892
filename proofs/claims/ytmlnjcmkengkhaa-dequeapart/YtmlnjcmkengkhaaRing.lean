/- A row that goes round in 256 cells: plain mathematics of cells. -/
import Derived.Test.YtmlnjcmkengkhaaModel
namespace Go.Proofs.Ytmlnjcmkengkhaa

/-- from the cell f on, gone round, lie the texts of L; every cell holds a text -/
structure Ring (cs : Array Value) (f : Nat) (L : Row) : Prop where
  beg : f < 256
  len : L.length ≤ 256
  at_ : ∀ i (h : i < L.length), cs[(f + i) % 256]? = some (txt L[i])
  all : ∀ j, j < 256 → ∃ t, cs[j]? = some (txt t)
theorem Ring.size {cs : Array Value} {f : Nat} {L : Row} (h : Ring cs f L) : 256 ≤ cs.size := by
  obtain ⟨t, ht⟩ := h.all 255 (by decide)
  have := (Array.getElem?_eq_some_iff.1 ht).1
  omega
/-- the fields behind the row -/
theorem Ring.aside {cs : Array Value} {f : Nat} {L : Row} (h : Ring cs f L) (j : Nat) (hj : 256 ≤ j) (v : Value) : Ring (cs.setIfInBounds j v) f L :=
  ⟨h.beg, h.len, fun i hi => by rw [Array.getElem?_setIfInBounds_ne (by omega)]; exact h.at_ i hi, fun k hk => by rw [Array.getElem?_setIfInBounds_ne (by omega)]; exact h.all k hk⟩
theorem set_all {cs : Array Value} (h : ∀ j, j < 256 → ∃ t, cs[j]? = some (txt t)) (k : Nat) (s : List UInt8) : ∀ j, j < 256 → ∃ t, (cs.setIfInBounds k (txt s))[j]? = some (txt t) := fun j hj => by
  obtain ⟨t, ht⟩ := h j hj
  by_cases e : k = j
  · subst e
    exact ⟨s, by rw [Array.getElem?_setIfInBounds_self_of_lt (Array.getElem?_eq_some_iff.1 ht).1]⟩
  · exact ⟨t, by rw [Array.getElem?_setIfInBounds_ne e]; exact ht⟩
theorem set_get {cs : Array Value} {k : Nat} (h : k < cs.size) (v : Value) : (cs.setIfInBounds k v)[k]? = some v := Array.getElem?_setIfInBounds_self_of_lt h
/-- one more behind -/
theorem Ring.back {cs : Array Value} {f : Nat} {L : Row} (h : Ring cs f L) (hl : L.length < 256) (s : List UInt8) : Ring (cs.setIfInBounds ((f + L.length) % 256) (txt s)) f (L ++ [s]) :=
  ⟨h.beg, by simp; omega, fun i hi => by
    have hsz := h.size
    have hf := h.beg
    simp only [List.length_append, List.length_singleton] at hi
    by_cases e : i < L.length
    · rw [Array.getElem?_setIfInBounds_ne (by omega), h.at_ i e, List.getElem_append_left e]
    · obtain rfl : i = L.length := by omega
      rw [set_get (by omega), List.getElem_append_right (by omega)]
      simp, set_all h.all _ s⟩
/-- one more ahead -/
theorem Ring.front {cs : Array Value} {f : Nat} {L : Row} (h : Ring cs f L) (hl : L.length < 256) (s : List UInt8) : Ring (cs.setIfInBounds ((f + 255) % 256) (txt s)) ((f + 255) % 256) (s :: L) :=
  ⟨by omega, by simp; omega, fun i hi => by
    have hsz := h.size
    have hf := h.beg
    simp only [List.length_cons] at hi
    cases i with
    | zero =>
      rw [show ((f + 255) % 256 + 0) % 256 = (f + 255) % 256 by omega, set_get (by omega)]
      rfl
    | succ i =>
      rw [Array.getElem?_setIfInBounds_ne (by omega), show ((f + 255) % 256 + (i + 1)) % 256 = (f + i) % 256 by omega, h.at_ i (by omega)]
      rfl, set_all h.all _ s⟩
/-- a part -/
theorem Ring.part {cs : Array Value} {f : Nat} {L : Row} (h : Ring cs f L) (a m : Nat) (ha : a + m ≤ L.length) : Ring cs ((f + a) % 256) ((L.drop a).take m) :=
  ⟨by omega, by simp; have := h.len; omega, fun i hi => by
    have hi' : i < m := by simp at hi; omega
    rw [show ((f + a) % 256 + i) % 256 = (f + (a + i)) % 256 by omega, h.at_ (a + i) (by omega)]
    simp, h.all⟩
/-- a cell outside the row -/
theorem Ring.out {cs : Array Value} {f : Nat} {L : Row} (h : Ring cs f L) (k : Nat) (hk : L.length ≤ k) (hk2 : k < 256) (s : List UInt8) : Ring (cs.setIfInBounds ((f + k) % 256) (txt s)) f L :=
  ⟨h.beg, h.len, fun i hi => by
    have hf := h.beg
    rw [Array.getElem?_setIfInBounds_ne (by omega)]
    exact h.at_ i hi, set_all h.all _ s⟩
/-- another one in its place -/
theorem Ring.put {cs : Array Value} {f : Nat} {L : Row} (h : Ring cs f L) (k : Nat) (hk : k < L.length) (s : List UInt8) : Ring (cs.setIfInBounds ((f + k) % 256) (txt s)) f (L.set k s) :=
  ⟨h.beg, by simpa using h.len, fun i hi => by
    have hf := h.beg
    have hl := h.len
    have hsz := h.size
    simp only [List.length_set] at hi
    by_cases e : k = i
    · subst e
      rw [set_get (by omega)]
      simp
    · rw [Array.getElem?_setIfInBounds_ne (by omega), h.at_ i hi, List.getElem_set_ne e], set_all h.all _ s⟩
theorem tail_eq (L : Row) : L.tail = (L.drop 1).take (L.length - 1) := by
  rw [List.drop_one, List.take_of_length_le (by simp)]
theorem init_eq (L : Row) : L.dropLast = (L.drop 0).take (L.length - 1) := by
  rw [List.drop_zero, List.dropLast_eq_take]
/-- nothing yet -/
theorem Ring.void {cs : Array Value} (h : ∀ j, j < 256 → ∃ t, cs[j]? = some (txt t)) : Ring cs 0 [] := ⟨by decide, by simp, fun i hi => by simp at hi, h⟩

end Go.Proofs.Ytmlnjcmkengkhaa
