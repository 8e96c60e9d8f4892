/- Core, Mem. -/
import Derived.Test.YtcbncdigejjcpaaGreatDoorProg
import Derived.WalkKit
import Derived.Below
import Derived.RowKit
import Derived.Laws.OwnMore
import Derived.Lib.OthersKept
namespace Go.Proofs.YtcbncdigejjcpaaGreatDoor
open Go.RowKit

theorem hid {p : Prop} (h : p) : Hid p := h
theorem below_alloc (w : World) (o : Obj) : Below w.heap.size w (w.alloc o) := (Below.refl _ _).alloc (Nat.le_refl _) o

end Go.Proofs.YtcbncdigejjcpaaGreatDoor

namespace Go.Proofs.YtcbncdigejjcpaaGreatDoor
open Go.RowKit

/-- a row of texts -/
abbrev Row := List (List UInt8)
/-- a text's value -/
abbrev txt (t : List UInt8) : Value := .string ⟨t.toArray⟩
/-- the blocks of P are as they were -/
structure Keep (P : Nat → Prop) (w w' : World) : Prop where
  os : w'.os = w.os
  tape : w'.tape = w.tape
  output : w'.output = w.output
  size : w.heap.size ≤ w'.heap.size
  block : ∀ k, k < w.heap.size → P k → w'.heap[k]? = w.heap[k]?
theorem Keep.refl (P : Nat → Prop) (w : World) : Keep P w w := ⟨rfl, rfl, rfl, Nat.le_refl _, fun _ _ _ => rfl⟩
theorem Keep.trans {P : Nat → Prop} {x y z : World} (h : Keep P x y) (k : Keep P y z) : Keep P x z :=
  ⟨k.os.trans h.os, k.tape.trans h.tape, k.output.trans h.output, Nat.le_trans h.size k.size, fun i hi hb => (k.block i (Nat.lt_of_lt_of_le hi h.size) hb).trans (h.block i hi hb)⟩
theorem Keep.mono {P Q : Nat → Prop} {x y : World} (h : Keep P x y) (hq : ∀ k, Q k → P k) : Keep Q x y := ⟨h.os, h.tape, h.output, h.size, fun i hi hb => h.block i hi (hq i hb)⟩
theorem Keep.of_below {P : Nat → Prop} {w w' : World} (h : Below w.heap.size w w') : Keep P w w' := ⟨h.os, h.tape, h.output, h.size, fun k hk _ => h.block k hk⟩
theorem cell_turn {w w' : World} {b k : Nat} {v : Value} (h : w.cell? ⟨b, k, none⟩ = some v) (he : w'.heap[b]? = w.heap[b]?) : w'.cell? ⟨b, k, none⟩ = some v := by
  rw [World.cell?_of_block (w := w) he]; exact h
/-- a slice is this row of texts; its block is one of P -/
def Tl (P : Nat → Prop) (w : World) (v : Value) (l : Row) : Prop :=
  (v = .slice none 0 0 ∧ l = []) ∨ ∃ g o c, v = .slice (some ⟨g, o, none⟩) l.length c ∧ l.length ≤ c ∧ P g ∧ g < w.heap.size ∧ ∀ i (h : i < l.length), w.cell? ⟨g, o + i, none⟩ = some (txt l[i])
theorem Tl.shape {P : Nat → Prop} {w : World} {v : Value} {l : Row} (h : Tl P w v l) : ∃ p c, v = .slice p l.length c ∧ l.length ≤ c := by
  rcases h with ⟨rfl, rfl⟩ | ⟨g, o, c, rfl, hc, _⟩
  · exact ⟨none, 0, rfl, Nat.le_refl _⟩
  · exact ⟨_, c, rfl, hc⟩
/-- where its texts lie -/
theorem Tl.cells {P : Nat → Prop} {w : World} {p : Option Addr} {n c : Nat} {l : Row} (h : Tl P w (.slice p n c) l) (i : Nat) (hi : i < l.length) : ∃ g o, p = some ⟨g, o, none⟩ ∧ g < w.heap.size ∧ P g ∧ ∀ j (hj : j < l.length), w.cell? ⟨g, o + j, none⟩ = some (txt l[j]) := by
  rcases h with ⟨_, rfl⟩ | ⟨g, o, c', h1, h2, h3, h4, h5⟩
  · simp at hi
  · injection h1 with h1 _ _
    exact ⟨g, o, h1, h4, h3, h5⟩
/-- a row of the call's own -/
abbrev Own (B : Nat) (w : World) (v : Value) (l : Row) : Prop := w.ownsRow B 9 1 v l.length (l.map txt)
theorem Own.tl {B : Nat} {P : Nat → Prop} {w : World} {v : Value} {l : Row} (h : Own B w v l) (hp : ∀ k, B ≤ k → P k) : Tl P w v l := by
  rcases h.2 with ⟨rfl, h0⟩ | ⟨g, cap, cur, rfl, hg, hc, hnc, _⟩
  · exact .inl ⟨rfl, List.length_eq_zero_iff.1 h0⟩
  · refine .inr ⟨g, 0, cap, rfl, hnc, hp g hg, (Array.getElem?_eq_some_iff.1 hc).1, fun i hi => ?_⟩
    have := World.ownsRow.cells h (g := g) rfl i (txt l[i]) (by simp [hi])
    rwa [Go.WideShapes.add_plain] at this
theorem owns_below {W W' : World} {base : Nat} {e : TypeId} {size : Nat} {v : Value} {n : Nat} {xs : List Value} (h : W.ownsRow base e size v n xs) (hb : Below W.heap.size W W') : W'.ownsRow base e size v n xs := by
  refine ⟨h.1, ?_⟩
  rcases h.2 with h | ⟨g, cap, cur, h1, h2, h3, h4⟩
  · exact .inl h
  · exact .inr ⟨g, cap, cur, h1, h2, (hb.block g (Array.getElem?_eq_some_iff.1 h3).1).trans h3, h4⟩
theorem infoS : (Tryz.prog.info? 9).map (fun i => (i.zero, i.size, i.bytes)) = some (some (.string ⟨#[]⟩), 1, 16) := by kernel_rfl
theorem append_none {W : World} {B : Nat} {v : Value} {l : Row} (h : Own B W v l) :
    (Builtin.append_ #[23, 23] 23 #[v, .slice none 0 0]).run Tryz.prog W = .ok v W := by
  obtain ⟨i0, hi, _⟩ := info_parts infoS
  exact run_append_owned_none (P := Tryz.prog) W B 23 23 9 i0 1 Tryz.underlying23 hi v _ _ h
/-- texts of a row are put behind an own one -/
theorem Own.app {B : Nat} {P : Nat → Prop} {W : World} {v u : Value} {l m : Row} (h : Own B W v l) (hB : B ≤ W.heap.size) (hu : Tl P W u m) (hl : l.length + m.length ≤ 4000000) :
    ∃ v' W', (Builtin.append_ #[23, 23] 23 #[v, u]).run Tryz.prog W = .ok v' W' ∧ Own B W' v' (l ++ m) ∧ Below B W W' := by
  obtain ⟨i0, hi, hz0, hz1, hz2⟩ := info_parts infoS
  rcases hu with ⟨rfl, rfl⟩ | ⟨g, o, c, rfl, h2, h3, h4, h5⟩
  · exact ⟨v, W, append_none h, by simpa [Own] using h, Below.refl _ _⟩
  · obtain ⟨v', w', hrun, ho, hgr, _⟩ := run_append_own (P := Tryz.prog) W B 23 23 9 i0 (.string ⟨#[]⟩) 1 16 Tryz.underlying23 hi hz0 hz1 hz2 rfl (by decide) _ _ _ h ⟨g, o, none⟩ m.length c (m.map txt) (by simp)
      (fun j u' hj => by
        rw [Go.WideShapes.add_plain]
        rw [List.getElem?_map] at hj
        cases hm : m[j]? with
        | none => rw [hm] at hj; cases hj
        | some t =>
          rw [hm] at hj
          obtain ⟨hjl, e⟩ := List.getElem?_eq_some_iff.1 hm
          rw [h5 j hjl, e]
          exact hj)
      (fun u' hu' => by
        obtain ⟨t, _, rfl⟩ := List.mem_map.1 hu'
        rfl) (by unfold maxLen; omega) (by omega) hB
    refine ⟨v', w', hrun, ?_, (Below.refl B W).grown hgr hB (fun k hk => (World.ownsRow.lt h k hk).1)⟩
    show w'.ownsRow B 9 1 v' (l ++ m).length ((l ++ m).map txt)
    rw [List.length_append, List.map_append]
    exact ho
/-- one text, laid for an append -/
theorem one_tl (P : Nat → Prop) (w : World) (t : List UInt8) (hp : P w.heap.size) : Tl P (w.alloc (.cells #[txt t] 9)) (.slice (some ⟨w.heap.size, 0, none⟩) 1 1) [t] :=
  .inr ⟨w.heap.size, 0, 1, rfl, by simp, hp, by simp, fun i hi => by
    have : i = 0 := by simp at hi; omega
    subst this
    rw [cell_of_row _ _ _ _ _ _ (heap_alloc_new w _)]
    rfl⟩

end Go.Proofs.YtcbncdigejjcpaaGreatDoor
