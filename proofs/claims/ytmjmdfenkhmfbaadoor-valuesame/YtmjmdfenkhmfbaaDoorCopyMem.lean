/- A copy that is written into. -/
import Derived.Test.YtmjmdfenkhmfbaaDoorLawLoads
namespace Go.Proofs.YtmjmdfenkhmfbaaDoor
open Go.RowKit

/-- the first j are changed -/
def bump {α : Type} (f : α → α) (l : List α) (j : Nat) : List α := (l.take j).map f ++ l.drop j
theorem bump_zero {α : Type} (f : α → α) (l : List α) : bump f l 0 = l := by simp [bump]
theorem bump_all {α : Type} (f : α → α) (l : List α) : bump f l l.length = l.map f := by simp [bump]
theorem bump_len {α : Type} (f : α → α) (l : List α) (j : Nat) (h : j ≤ l.length) : (bump f l j).length = l.length := by simp [bump]; omega
theorem bump_at {α : Type} (f : α → α) (l : List α) (j : Nat) (h : j < l.length) (h' : j < (bump f l j).length) : (bump f l j)[j] = l[j] := by
  have el : ((l.take j).map f).length = j := by simp; omega
  have e : (bump f l j)[j]? = some l[j] := by
    unfold bump
    rw [List.getElem?_append_right (by omega), el, Nat.sub_self, List.getElem?_drop]
    simp [h]
  rw [List.getElem?_eq_getElem h'] at e
  exact Option.some.inj e
theorem bump_set {α : Type} (f : α → α) (l : List α) (j : Nat) (h : j < l.length) : (bump f l j).set j (f l[j]) = bump f l (j + 1) := by
  have el : ((l.take j).map f).length = j := by simp; omega
  unfold bump
  rw [List.set_append_right _ _ (by omega), el, Nat.sub_self, List.drop_eq_getElem_cons h, List.set_cons_zero, List.take_succ_eq_append_getElem h, List.map_append]
  simp
def fI (x : Nm) : Nm := x ++ [63]
def fP (p : Nm × Nm) : Nm × Nm := (p.1 ++ [63], p.2)
/-- rows of the call's own that may be written -/
structure Wt (B : Nat) (w : World) (pp ip : Option Addr) (np ni : Nat) : Prop where
  items : 0 < ni → ∃ g o cs, ip = some ⟨g, o, none⟩ ∧ B ≤ g ∧ w.heap[g]? = some (.cells cs 9 (0, 0))
  pairs : 0 < np → ∃ g o cs, pp = some ⟨g, o, none⟩ ∧ B ≤ g ∧ w.heap[g]? = some (.cells cs 44 (0, 0))
theorem Wt.turn {B : Nat} {w w' : World} {pp ip : Option Addr} {np ni : Nat} (h : Wt B w pp ip np ni) (hb : Below w.heap.size w w') : Wt B w' pp ip np ni := by
  refine ⟨fun k => ?_, fun k => ?_⟩
  · obtain ⟨g, o, cs, h1, h2, h3⟩ := h.items k
    exact ⟨g, o, cs, h1, h2, (hb.block g (Array.getElem?_eq_some_iff.1 h3).1).trans h3⟩
  · obtain ⟨g, o, cs, h1, h2, h3⟩ := h.pairs k
    exact ⟨g, o, cs, h1, h2, (hb.block g (Array.getElem?_eq_some_iff.1 h3).1).trans h3⟩
/-- a text of the copy is written -/
theorem put_item {B : Nat} {w : World} {m : Vl} {pp ip : Option Addr} {pc' ic : Nat} (hV : VI w m pp pc' ip ic) (hW : Wt B w pp ip m.pairs.length m.items.length) (j : Nat) (hj : j < m.items.length) (x : Nm) :
    ∃ g o, ip = some ⟨g, o, none⟩ ∧ B ≤ g ∧ w.cell? ⟨g, o + j, none⟩ = some (txt m.items[j]) ∧ w.frozen? ⟨g, o + j, none⟩ = false ∧ (∃ cs, w.heap[g]? = some (.cells cs 9 (0, 0))) ∧
      VI (w.setCell ⟨g, o + j, none⟩ (txt x)) { m with items := m.items.set j x } pp pc' ip ic ∧ Wt B (w.setCell ⟨g, o + j, none⟩ (txt x)) pp ip m.pairs.length m.items.length := by
  obtain ⟨g, o, cs, h1, h2, h3⟩ := hW.items (by omega)
  obtain ⟨g', o', h4, h5⟩ := hV.items.strs (fun e => by rw [e] at hj; simp at hj)
  rw [h1] at h4
  injection h4 with h4
  injection h4 with e1 e2
  subst e1 e2
  have hcs : ∀ i (h : i < m.items.length), cs[o + i]? = some (txt m.items[i]) := fun i hi => by rw [← cell_of_row w g (o + i) cs _ _ h3]; exact h5 i hi
  have hsame := heap_setCell_same w g (o + j) cs 9 (txt x) h3
  have hlt : o + j < cs.size := by
    have := hcs j hj
    exact (Array.getElem?_eq_some_iff.1 this).1
  refine ⟨g, o, h1, h2, h5 j hj, frozen_of_row w g _ cs _ h3, ⟨cs, h3⟩, ⟨?_, ?_⟩, ?_⟩
  · refine ⟨fun hne => ?_, hV.pairs.nil, hV.pairs.cap⟩
    obtain ⟨gp, op, hp, hc⟩ := hV.pairs.prs hne
    obtain ⟨g2, o2, cs2, hq, _, hq2⟩ := hW.pairs (List.length_pos_iff.2 hne)
    rw [hp] at hq
    injection hq with hq
    injection hq with e1 e2
    subst e1 e2
    have hneg : gp ≠ g := fun e => by
      subst e
      rw [h3] at hq2
      injection hq2 with hq2
      injection hq2 with _ hq2
      exact absurd hq2 (by decide)
    exact ⟨gp, op, hp, fun i hi => ⟨cell_turn (hc i hi).1 (heap_setCell_other _ _ _ _ hneg), cell_turn (hc i hi).2 (heap_setCell_other _ _ _ _ hneg)⟩⟩
  · refine ⟨fun hne => ⟨g, o, h1, fun i hi => ?_⟩, hV.items.nil, by simpa using hV.items.cap⟩
    have hi' : i < m.items.length := by simpa using hi
    rw [cell_of_row _ g (o + i) _ _ _ hsame]
    by_cases e : j = i
    · subst e
      rw [Array.getElem?_setIfInBounds_self_of_lt hlt]
      simp
    · rw [Array.getElem?_setIfInBounds_ne (by omega), hcs i hi']
      simp [List.getElem_set_ne e]
  · refine ⟨fun _ => ⟨g, o, _, h1, h2, hsame⟩, fun k => ?_⟩
    obtain ⟨g2, o2, cs2, hq, hq1, hq2⟩ := hW.pairs k
    have hneg : g2 ≠ g := fun e => by
      subst e
      rw [h3] at hq2
      injection hq2 with hq2
      injection hq2 with _ hq2
      exact absurd hq2 (by decide)
    exact ⟨g2, o2, cs2, hq, hq1, (heap_setCell_other _ _ _ _ hneg).trans hq2⟩
/-- a name of the copy is written -/
theorem put_name {B : Nat} {w : World} {m : Vl} {pp ip : Option Addr} {pc' ic : Nat} (hV : VI w m pp pc' ip ic) (hW : Wt B w pp ip m.pairs.length m.items.length) (j : Nat) (hj : j < m.pairs.length) (x : Nm) :
    ∃ g o, pp = some ⟨g, o, none⟩ ∧ B ≤ g ∧ w.cell? ⟨g, o + j * 2, none⟩ = some (txt m.pairs[j].1) ∧ w.frozen? ⟨g, o + j * 2, none⟩ = false ∧ (∃ cs, w.heap[g]? = some (.cells cs 44 (0, 0))) ∧
      VI (w.setCell ⟨g, o + j * 2, none⟩ (txt x)) { m with pairs := m.pairs.set j (x, m.pairs[j].2) } pp pc' ip ic ∧ Wt B (w.setCell ⟨g, o + j * 2, none⟩ (txt x)) pp ip m.pairs.length m.items.length := by
  obtain ⟨g, o, cs, h1, h2, h3⟩ := hW.pairs (by omega)
  obtain ⟨g', o', h4, h5⟩ := hV.pairs.prs (fun e => by rw [e] at hj; simp at hj)
  rw [h1] at h4
  injection h4 with h4
  injection h4 with e1 e2
  subst e1 e2
  have hcs : ∀ i (h : i < m.pairs.length), cs[o + i * 2]? = some (txt m.pairs[i].1) ∧ cs[o + i * 2 + 1]? = some (txt m.pairs[i].2) := fun i hi => by
    rw [← cell_of_row w g (o + i * 2) cs _ _ h3, ← cell_of_row w g (o + i * 2 + 1) cs _ _ h3]; exact h5 i hi
  have hsame := heap_setCell_same w g (o + j * 2) cs 44 (txt x) h3
  have hlt : o + j * 2 < cs.size := (Array.getElem?_eq_some_iff.1 (hcs j hj).1).1
  refine ⟨g, o, h1, h2, (h5 j hj).1, frozen_of_row w g _ cs _ h3, ⟨cs, h3⟩, ⟨?_, ?_⟩, ?_⟩
  · refine ⟨fun hne => ⟨g, o, h1, fun i hi => ?_⟩, hV.pairs.nil, by simpa using hV.pairs.cap⟩
    have hi' : i < m.pairs.length := by simpa using hi
    rw [cell_of_row _ g (o + i * 2) _ _ _ hsame, cell_of_row _ g (o + i * 2 + 1) _ _ _ hsame]
    by_cases e : j = i
    · subst e
      rw [Array.getElem?_setIfInBounds_self_of_lt hlt, Array.getElem?_setIfInBounds_ne (by omega), (hcs j hi').2]
      simp
    · rw [Array.getElem?_setIfInBounds_ne (by omega), Array.getElem?_setIfInBounds_ne (by omega), (hcs i hi').1, (hcs i hi').2]
      simp [List.getElem_set_ne e]
  · refine ⟨fun hne => ?_, hV.items.nil, hV.items.cap⟩
    obtain ⟨gp, op, hp, hc⟩ := hV.items.strs hne
    obtain ⟨g2, o2, cs2, hq, _, hq2⟩ := hW.items (List.length_pos_iff.2 hne)
    rw [hp] at hq
    injection hq with hq
    injection hq with e1 e2
    subst e1 e2
    have hneg : gp ≠ g := fun e => by
      subst e
      rw [h3] at hq2
      injection hq2 with hq2
      injection hq2 with _ hq2
      exact absurd hq2 (by decide)
    exact ⟨gp, op, hp, fun i hi => cell_turn (hc i hi) (heap_setCell_other _ _ _ _ hneg)⟩
  · refine ⟨fun k => ?_, fun _ => ⟨g, o, _, h1, h2, hsame⟩⟩
    obtain ⟨g2, o2, cs2, hq, hq1, hq2⟩ := hW.items k
    have hneg : g2 ≠ g := fun e => by
      subst e
      rw [h3] at hq2
      injection hq2 with hq2
      injection hq2 with _ hq2
      exact absurd hq2 (by decide)
    exact ⟨g2, o2, cs2, hq, hq1, (heap_setCell_other _ _ _ _ hneg).trans hq2⟩

end Go.Proofs.YtmjmdfenkhmfbaaDoor
