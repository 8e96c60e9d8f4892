/- VpJ, VpK. -/
import Derived.Test.YtbfllifgmlkndaaGreatDoorM36
import Derived.Test.YtbfllifgmlkndaaGreatDoorM30
namespace Go.Proofs.YtbfllifgmlkndaaGreatDoor
open Go.RowKit Go.Shelf
open Slot

theorem beat_find (v : Vw) (p : Pk) : ∀ (f k : Nat), beatV v p f k = ((List.range' k f).find? (worse v p)).map v.own
  | 0, _ => rfl
  | f + 1, k => by
    unfold beatV
    rw [List.range'_succ, List.find?_cons]
    cases h : worse v p k with
    | true => simp
    | false => simp [beat_find v p f (k + 1)]
/-- has another one this slot at a greater epoch? -/
def wb (v : Vw) (p : Pk) (s : Nat) : Bool := decide (v.own s ≠ 64) && decide (v.own s ≠ p.frm.toNat) && decide (p.epoch < v.ep (v.own s))
theorem worse_wb (v : Vw) (p : Pk) (s : Nat) : worse v p s = (p.cl s && wb v p s) := by
  unfold worse wb
  simp [Bool.and_assoc]
theorem beat_slots (v : Vw) (p : Pk) : beatV v p top 0 = ((slots p.cl).find? (wb v p)).map v.own := by
  rw [beat_find]
  unfold slots
  rw [List.find?_filter]
  congr 2
  funext s
  rw [worse_wb]
  cases p.cl s <;> cases wb v p s <;> rfl
theorem beat_first {v : Vw} {p : Pk} {pre q : List Nat} {x : Nat} (h : pre <+: slots p.cl) (he : pre = q ++ [x]) (hq : ∀ s ∈ q, wb v p s = false) (hx : wb v p x = true) : beatV v p top 0 = some (v.own x) := by
  obtain ⟨r, hr⟩ := h
  rw [beat_slots, ← hr, he, List.find?_append, List.find?_append, List.find?_eq_none.2 (fun s hs => by rw [hq s hs]; decide)]
  simp [hx]
theorem beat_no {v : Vw} {p : Pk} (hq : ∀ s ∈ slots p.cl, wb v p s = false) : beatV v p top 0 = none := by
  rw [beat_slots, List.find?_eq_none.2 (fun s hs => by rw [hq s hs]; decide)]
  rfl

end Go.Proofs.YtbfllifgmlkndaaGreatDoor

namespace Go.Proofs.YtbfllifgmlkndaaGreatDoor
open Go.RowKit Go.Shelf
open Slot

theorem below_kept {w W W' : World} {n B : Nat} {row : Option Nat} (h : Below n w W) (hB : n ≤ B) (hw : n ≤ w.heap.size) (hg : W.grownBy W' row) (hr : ∀ r, row = some r → B ≤ r ∧ ∃ o : Obj, W.heap[r]? = some o ∧ o.isCells = false) : Below n w W' :=
  ⟨hg.os.trans h.os, hg.tape.trans h.tape, hg.output.trans h.output, Nat.le_trans h.size hg.size, fun k hk => (hg.block k (by have := h.size; omega) (fun e => by have := (hr k e.symm).1; omega)).trans (h.block k hk)⟩
theorem OwnP.kept {W W' : World} {row : Option Nat} {B : Nat} {v : Value} {L : List Pk} (h : OwnP B W v L) (hg : W.grownBy W' row) (hr : ∀ r, row = some r → ∃ o : Obj, W.heap[r]? = some o ∧ o.isCells = false) : OwnP B W' v L := by
  refine ⟨h.1, ?_⟩
  rcases h.2 with h | ⟨g, cap, cur, h1, h2, h3, h4⟩
  · exact .inl h
  · exact .inr ⟨g, cap, cur, h1, h2, heap_kept h3 hg hr, h4⟩
theorem keeps_below {W W' : World} (h : Below W.heap.size W W') : KeepsOthers W W' := ⟨h.size, fun k _ hk _ => (h.block k (Array.getElem?_eq_some_iff.1 hk).1).trans hk⟩
/-- a packet is appended; whatever is no cells lies as it lay -/
theorem ownp_push2 {B : Nat} {W : World} {v : Value} {L : List Pk} (h : OwnP B W v L) (q : Pk) (c : Nat) (hc : PBox W c q) (hB : B ≤ W.heap.size) (hl : L.length ≤ 1000) :
    ∃ v' W', (Builtin.append_ #[103, 103] 103 #[v, .slice (some ⟨c, 0, none⟩) 1 1]).run Tryz.prog W = .ok v' W' ∧ OwnP B W' v' (L ++ [q]) ∧ Below B W W' ∧ KeepsOthers W W' := by
  have hi := infoPkt
  cases hi0 : Tryz.prog.info? 53 with
  | none => rw [hi0] at hi; cases hi
  | some i0 =>
    rw [hi0] at hi
    simp only [Option.map_some, Option.some.injEq, Prod.mk.injEq] at hi
    obtain ⟨hz0, hz1, hz2⟩ := hi
    obtain ⟨z, hz⟩ := Option.isSome_iff_exists.1 hz0
    have hzs : z.cells.size = 261 := by
      have hk := zeroPkV
      rw [hi0, Option.bind_some, hz] at hk
      simpa using hk
    obtain ⟨v', w', hrun, ho, hgr, hnil⟩ := run_append_own (P := Tryz.prog) W B 103 103 53 i0 z 261 2088 Tryz.underlying103 hi0 hz hz1 hz2 hzs (by decide) _ _ _ h ⟨c, 0, none⟩ 1 1 (pkCells q).toList (by rw [Array.length_toList, pkCells_size])
      (fun j u hj => by
        rw [Go.WideShapes.add_plain, Nat.zero_add, cell_of_row W c j _ _ _ hc]
        simpa using hj)
      (fun u hu => by
        have := onePk q
        rw [Array.all_eq_true_iff_forall_mem] at this
        exact this u (Array.mem_toList_iff.1 hu)) (by unfold maxLen; omega) (by omega) hB
    refine ⟨v', w', hrun, ?_, (Below.refl B W).grown hgr hB (fun k hk => (World.ownsRow.lt h k hk).1), KeepsOthers.of_grownBy hgr ?_⟩
    · show w'.ownsRow B 53 261 v' (L ++ [q]).length (flatP (L ++ [q]))
      rw [List.length_append, List.length_singleton, show flatP (L ++ [q]) = flatP L ++ (pkCells q).toList by unfold flatP; rw [List.flatMap_append]; simp]
      exact ho
    · intro j o hj hoj
      rcases h.2 with ⟨rfl, -⟩ | ⟨g, cap, cur, rfl, h2, h3, h4⟩
      · cases hj
      · cases hj
        rw [h3] at hoj
        cases hoj
        rfl
theorem ret_cell1 {fn : Func} {p : Tmp} (h : fn.results = #[.cell p 103]) {tmps : Array Value} {w : World} {g : Nat} {x : Value} (hp : tmps.getD p undef = .pointer (some ⟨g, 0, none⟩)) (hc : w.cell? ⟨g, 0, none⟩ = some x) :
    (results fn tmps).run Tryz.prog w = .ok x w := by
  have hp' : tmps[p]?.getD undef = .pointer (some ⟨g, 0, none⟩) := by simpa using hp
  simp [results, h, hp', asAddr, go_sem, hc]
/-- a call of answers on its way -/
structure An (w wr : World) (b : Nat) (v : Vw) (p : Pk) (vr vl : Value) : Prop where
  vb : VB wr b v
  p0 : wr.heap[w.heap.size]? = some (.cells #[.pointer (some ⟨b, 0, none⟩)] 50 (0, 0))
  p1 : PBox wr (w.heap.size + 1) p
  res : wr.heap[w.heap.size + 2]? = some (.cells #[vr] 103 (0, 0))
  lc : wr.heap[w.heap.size + 3]? = some (.cells #[vl] 103 (0, 0))
  bel : Below w.heap.size w wr
theorem An.lt {w wr : World} {b : Nat} {v : Vw} {p : Pk} {vr vl : Value} (h : An w wr b v p vr vl) : w.heap.size + 3 < wr.heap.size := (Array.getElem?_eq_some_iff.1 h.lc).1
theorem An.fresh {w wr w' : World} {b : Nat} {v : Vw} {p : Pk} {vr vl : Value} (h : An w wr b v p vr vl) (hw : b < w.heap.size) (hb : Below (w.heap.size + 4) wr w') : An w w' b v p vr vl :=
  ⟨h.vb.below hb (by omega), (hb.block _ (by omega)).trans h.p0, (hb.block _ (by omega)).trans h.p1, (hb.block _ (by omega)).trans h.res, (hb.block _ (by omega)).trans h.lc, h.bel.trans (hb.mono (by omega))⟩
theorem An.call {w wr w' : World} {b : Nat} {v : Vw} {p : Pk} {vr vl : Value} (h : An w wr b v p vr vl) (hw : b < w.heap.size) (hb : Below wr.heap.size wr w') : An w w' b v p vr vl := h.fresh hw (hb.mono (by have := h.lt; omega))
theorem An.kept {w W W' : World} {b B : Nat} {v : Vw} {p : Pk} {vr vl : Value} {row : Option Nat} (h : An w W b v p vr vl) (hB : w.heap.size ≤ B) (hg : W.grownBy W' row) (hr : ∀ r, row = some r → B ≤ r ∧ ∃ o : Obj, W.heap[r]? = some o ∧ o.isCells = false) : An w W' b v p vr vl :=
  have hr' := fun r e => (hr r e).2
  ⟨h.vb.kept hg hr', heap_kept h.p0 hg hr', heap_kept h.p1 hg hr', heap_kept h.res hg hr', heap_kept h.lc hg hr', below_kept h.bel hB (Nat.le_refl _) hg hr⟩
theorem An.setL {w wr : World} {b : Nat} {v : Vw} {p : Pk} {vr vl : Value} (h : An w wr b v p vr vl) (hw : b < w.heap.size) (x : Value) : An w (wr.setCell ⟨w.heap.size + 3, 0, none⟩ x) b v p vr x := by
  have o : ∀ k, k ≠ w.heap.size + 3 → (wr.setCell ⟨w.heap.size + 3, 0, none⟩ x).heap[k]? = wr.heap[k]? := fun k hk => Below.heap_setCell _ _ _ _ hk
  refine ⟨h.vb.turn (o _ (by omega)), (o _ (by omega)).trans h.p0, (o _ (by omega)).trans h.p1, (o _ (by omega)).trans h.res, ?_, h.bel.setCell (by show w.heap.size ≤ w.heap.size + 3; omega) _⟩
  exact heap_setCell_same wr (w.heap.size + 3) 0 _ _ _ h.lc
theorem An.setR {w wr : World} {b : Nat} {v : Vw} {p : Pk} {vr vl : Value} (h : An w wr b v p vr vl) (hw : b < w.heap.size) (x : Value) : An w (wr.setCell ⟨w.heap.size + 2, 0, none⟩ x) b v p x vl := by
  have o : ∀ k, k ≠ w.heap.size + 2 → (wr.setCell ⟨w.heap.size + 2, 0, none⟩ x).heap[k]? = wr.heap[k]? := fun k hk => Below.heap_setCell _ _ _ _ hk
  refine ⟨h.vb.turn (o _ (by omega)), (o _ (by omega)).trans h.p0, (o _ (by omega)).trans h.p1, ?_, (o _ (by omega)).trans h.lc, h.bel.setCell (by show w.heap.size ≤ w.heap.size + 2; omega) _⟩
  exact heap_setCell_same wr (w.heap.size + 2) 0 _ _ _ h.res
theorem An.drew {w wr : World} {b : Nat} {v : Vw} {p : Pk} {vr vl : Value} (h : An w wr b v p vr vl) : An w wr.drew b v p vr vl := ⟨h.vb.turn rfl, h.p0, h.p1, h.res, h.lc, h.bel.drew⟩
theorem An.cells {w wr : World} {b : Nat} {v : Vw} {p : Pk} {vr vl : Value} (h : An w wr b v p vr vl) : wr.cell? ⟨w.heap.size, 0, none⟩ = some (.pointer (some ⟨b, 0, none⟩)) ∧ wr.cell? ⟨w.heap.size + 2, 0, none⟩ = some vr ∧ wr.cell? ⟨w.heap.size + 3, 0, none⟩ = some vl ∧ wr.frozen? ⟨w.heap.size + 2, 0, none⟩ = false ∧ wr.frozen? ⟨w.heap.size + 3, 0, none⟩ = false :=
  ⟨cell_of_row _ _ _ _ _ _ h.p0, cell_of_row _ _ _ _ _ _ h.res, cell_of_row _ _ _ _ _ _ h.lc, by simp [World.frozen?, h.res], by simp [World.frozen?, h.lc]⟩
theorem an_new (w : World) (b : Nat) (v : Vw) (p : Pk) (hV : VB w b v) : An w ((((w.alloc (.cells #[.pointer (some ⟨b, 0, none⟩)] 50)).alloc (.cells (pkCells p) 53)).alloc (.cells #[.slice none 0 0] 103)).alloc (.cells #[.slice none 0 0] 103)) b v p (.slice none 0 0) (.slice none 0 0) := by
  have e1 : (w.alloc (.cells #[.pointer (some ⟨b, 0, none⟩)] 50)).heap.size = w.heap.size + 1 := by simp
  have e2 : ((w.alloc (.cells #[.pointer (some ⟨b, 0, none⟩)] 50)).alloc (.cells (pkCells p) 53)).heap.size = w.heap.size + 2 := by simp
  have e3 : (((w.alloc (.cells #[.pointer (some ⟨b, 0, none⟩)] 50)).alloc (.cells (pkCells p) 53)).alloc (.cells #[.slice none 0 0] 103)).heap.size = w.heap.size + 3 := by simp
  have b1 := below_alloc w (.cells #[.pointer (some ⟨b, 0, none⟩)] 50)
  have b3 := below_alloc ((w.alloc (.cells #[.pointer (some ⟨b, 0, none⟩)] 50)).alloc (.cells (pkCells p) 53)) (.cells #[.slice none 0 0] 103)
  have b4 := below_alloc (((w.alloc (.cells #[.pointer (some ⟨b, 0, none⟩)] 50)).alloc (.cells (pkCells p) 53)).alloc (.cells #[.slice none 0 0] 103)) (.cells #[.slice none 0 0] 103)
  have hB : Below w.heap.size w ((((w.alloc (.cells #[.pointer (some ⟨b, 0, none⟩)] 50)).alloc (.cells (pkCells p) 53)).alloc (.cells #[.slice none 0 0] 103)).alloc (.cells #[.slice none 0 0] 103)) := ((b1.alloc (by omega) _).alloc (by omega) _).alloc (by omega) _
  refine ⟨hV.below hB hV.lt, ?_, ?_, ?_, ?_, hB⟩
  · exact (b4.block _ (by omega)).trans ((b3.block _ (by omega)).trans (heap_alloc2_old w _ _))
  · exact (b4.block _ (by omega)).trans ((b3.block _ (by omega)).trans (heap_alloc2_new w _ _))
  · have := heap_alloc_new ((w.alloc (.cells #[.pointer (some ⟨b, 0, none⟩)] 50)).alloc (.cells (pkCells p) 53)) (.cells #[.slice none 0 0] 103)
    rw [e2] at this
    exact (b4.block _ (by omega)).trans this
  · have := heap_alloc_new (((w.alloc (.cells #[.pointer (some ⟨b, 0, none⟩)] 50)).alloc (.cells (pkCells p) 53)).alloc (.cells #[.slice none 0 0] 103)) (.cells #[.slice none 0 0] 103)
    rw [e3] at this
    exact this

end Go.Proofs.YtbfllifgmlkndaaGreatDoor
