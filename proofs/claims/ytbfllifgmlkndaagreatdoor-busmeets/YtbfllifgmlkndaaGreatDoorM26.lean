/- VwRef5, VwRef6, VwRef7, VwRef8, VwRef9, VwRefA, VwSame, VwTake, VwTake2, VwTake3. -/
import Derived.Deep.MidRow
import Derived.Test.YtbfllifgmlkndaaGreatDoorM24
import Derived.Test.YtbfllifgmlkndaaGreatDoorM21
import Derived.Deep.RegionHeld3
import Derived.Laws.MakeOwn
import Derived.Deep.QuietTactic
import Derived.Lib.QuietBelow
import Derived.Test.YtbfllifgmlkndaaGreatDoorM23
namespace Go.Proofs.YtbfllifgmlkndaaGreatDoor
open Go.RowKit
open Slot

/-- a node's cells -/
def ndCells (e : Nat) (S : Nat → Bool) : Array Value := #[.int .u64 (e : Int)] ++ cellsOf S
theorem ndCells_size (e : Nat) (S : Nat → Bool) : (ndCells e S).size = 257 := by simp [ndCells, cellsOf_size]
theorem ndCells_get (e : Nat) (S : Nat → Bool) (i : Nat) (hi : i < 256) : (ndCells e S)[1 + i]? = some (.int .u64 (word S i : Int)) := by
  unfold ndCells
  rw [Array.getElem?_append_right (by simp)]
  simpa using cellsOf_get S i hi
theorem ndCells_zero (e : Nat) (S : Nat → Bool) : (ndCells e S)[0]? = some (.int .u64 (e : Int)) := by
  unfold ndCells
  rw [Array.getElem?_append_left (by simp)]
  rfl
theorem Nd.range {w : World} {g : Nat} {E : Nat → Nat} {K : Nat → Nat → Bool} (h : Nd w g E K) {n : Nat} (hn : n < 64) : w.rangeAt g (n * 257) (ndCells (E n) (K n)).toList := fun j v hv => by
  rw [Array.getElem?_toList] at hv
  have hj : j < 257 := by
    have := (Array.getElem?_eq_some_iff.1 hv).1
    rwa [ndCells_size] at this
  by_cases e : j = 0
  · subst e
    rw [ndCells_zero] at hv
    rw [Nat.add_zero, h.ep hn]; exact hv
  · rw [show j = 1 + (j - 1) by omega, ndCells_get _ _ _ (by omega)] at hv
    rw [show n * 257 + j = n * 257 + 1 + (j - 1) by omega, h.wd hn (by omega)]; exact hv
theorem built_four (k f e c : Int) : Instr.fill (fun i => placesP[i]?) (#[.int .i64 0, .int .i64 0, .int .i64 0, .int .u64 0, .int .u64 0] ++ Array.replicate 256 (.int .u64 0)) [(0, .int .i64 k), (1, .int .i64 f), (3, .int .u64 e), (4, .int .u64 c)] = some (#[.int .i64 k, .int .i64 f, .int .i64 0, .int .u64 e, .int .u64 c] ++ Array.replicate 256 (.int .u64 0)) := by kernel_rfl
theorem build_tell (k f : Int) (e c : Nat) (S : Nat → Bool) (w : World) : (Instr.build 53 #[(0, .int .i64 k), (1, .int .i64 f), (3, .int .u64 (e : Int)), (4, .int .u64 (c : Int)), (5, .agg (cellsOf S))]).run Tryz.prog w = .ok (.agg (pkCells ⟨k, f, 0, e, c, S⟩)) w := by
  refine run_build w _ _ _ ?_
  rw [built_any]
  have := fill_app (fun i => placesP[i]?) [(0, .int .i64 k), (1, .int .i64 f), (3, .int .u64 (e : Int)), (4, .int .u64 (c : Int))] [(5, .agg (cellsOf S))] (#[.int .i64 0, .int .i64 0, .int .i64 0, .int .u64 0, .int .u64 0] ++ Array.replicate 256 (.int .u64 0))
  rw [List.cons_append, List.cons_append, List.cons_append, List.cons_append, List.nil_append] at this
  refine this.trans ?_
  rw [built_four, Option.bind_some]
  have h5 : placesP[5]? = some (5, 256) := rfl
  simp only [Instr.fill, h5, Value.cells, cellsOf_size, Array.size_append, Array.size_replicate]
  rw [if_neg (by simp)]
  refine congrArg some ?_
  exact fill_row #[.int .i64 k, .int .i64 f, .int .i64 0, .int .u64 (e : Int), .int .u64 (c : Int)] (Array.replicate 256 (.int .u64 0)) (cellsOf S) (by rw [cellsOf_size]; simp)
set_option maxRecDepth 100000 in
theorem tell_form (k f : Int) (e c : Nat) (S : Nat → Bool) : Array.foldl (fun cs (x : Value × Nat) => cs.setIfInBounds (5 + x.snd) x.fst)
          ((((Tryz.zeroCells53.setIfInBounds 0 (Value.int IntKind.i64 k)).setIfInBounds 1 (Value.int IntKind.i64 f)).setIfInBounds 3 (Value.int IntKind.u64 e)).setIfInBounds 4 (Value.int IntKind.u64 c))
          (cellsOf S).zipIdx 0 (cellsOf S).size = pkCells ⟨k, f, 0, e, c, S⟩ := by
  have hs : (cellsOf S).size = 256 := cellsOf_size S
  have hz := zsize
  have a := fun w : World => build_tell k f e c S w
  simp only [go_sem, hs] at a
  simp [hz] at a
  exact a
theorem infoBl {S : Nat → Bool} : (Tryz.prog.info? 24).map (·.size) = some (cellsOf S).toList.length := infoCl S
end Go.Proofs.YtbfllifgmlkndaaGreatDoor

namespace Go.Proofs.YtbfllifgmlkndaaGreatDoor
open Go.RowKit
open Slot

/-- a row of packets that may be read -/
def Pks (w : World) (a : Option Addr) (L : List Pk) : Prop := L ≠ [] → ∃ b o, a = some ⟨b, o, none⟩ ∧ b < w.heap.size ∧ ∀ j (h : j < L.length), w.rangeAt b (o + j * 261) (pkCells L[j]).toList
theorem Pks.below {w w' : World} {n : Nat} {a : Option Addr} {L : List Pk} (h : Pks w a L) (hb : Below n w w') (hn : ∀ x, a = some x → x.block < n) : Pks w' a L := fun hne => by
  obtain ⟨b, o, rfl, h1, h2⟩ := h hne
  refine ⟨b, o, rfl, Nat.lt_of_lt_of_le h1 hb.size, fun j hj i v hv => ?_⟩
  rw [hb.cell (p := ⟨b, o + j * 261 + i, none⟩) (hn ⟨b, o, none⟩ rfl)]
  exact h2 j hj i v hv
theorem infoPl (p : Pk) : (Tryz.prog.info? 53).map (·.size) = some (pkCells p).toList.length := by rw [Array.length_toList]; exact infoPk p
end Go.Proofs.YtbfllifgmlkndaaGreatDoor

namespace Go.Proofs.YtbfllifgmlkndaaGreatDoor
open Go.RowKit
open Slot

/-- a call of Take on its way: the view in its block, the packet, the answer's block, and nodes of its own -/
structure Tak (w wr : World) (me g cap cur : Nat) (p : Pk) : Prop where
  bel : Below w.heap.size w wr
  rv : RVb wr w.heap.size me g cap cur
  pk : PBox wr (w.heap.size + 1) p
  res : wr.heap[w.heap.size + 2]? = some (.cells #[.int .i64 0, .slice none 0 0, .int .u64 0] 34 (0, 0))
theorem Tak.lt {w wr : World} {me g cap cur : Nat} {p : Pk} (h : Tak w wr me g cap cur p) : w.heap.size + 2 < wr.heap.size := (Array.getElem?_eq_some_iff.1 h.res).1
theorem Tak.call {w wr w' : World} {me g cap cur : Nat} {p : Pk} (h : Tak w wr me g cap cur p) (hb : Below wr.heap.size wr w') : Tak w w' me g cap cur p :=
  ⟨h.bel.trans (hb.mono h.bel.size), (hb.block _ h.rv.lt).trans h.rv, (hb.block _ h.pk.lt).trans h.pk, (hb.block _ h.lt).trans h.res⟩
theorem Tak.only {w wr w' : World} {me g cap cur c : Nat} {p : Pk} (h : Tak w wr me g cap cur p) (hb : Only c wr w') (hc : w.heap.size + 3 ≤ c) : Tak w w' me g cap cur p :=
  ⟨h.bel.trans (hb.below (by omega) h.bel.size), (hb.block _ h.rv.lt (by omega)).trans h.rv, (hb.block _ h.pk.lt (by omega)).trans h.pk, (hb.block _ h.lt (by omega)).trans h.res⟩
theorem Tak.put {w wr : World} {me g cap cur g2 cap2 cur2 : Nat} {p : Pk} (h : Tak w wr me g cap cur p) : Tak w (wr.setRow w.heap.size (rvc me g2 cap2 cur2)) me g2 cap2 cur2 p :=
  ⟨below_setRow h.bel (Nat.le_refl _) _, setRow_heap _ _ _ _ _ _ h.rv, (setRow_other _ _ _ _ (by omega)).trans h.pk, (setRow_other _ _ _ _ (by omega)).trans h.res⟩
theorem Tak.cur {w wr : World} {me g cap cur : Nat} {p : Pk} (h : Tak w wr me g cap cur p) (x : Nat) : Tak w (wr.setCell ⟨w.heap.size, 2, none⟩ (.int .u64 (x : Int))) me g cap x p :=
  ⟨h.bel.setCell (by exact Nat.le_refl _) _, h.rv.setCur x, (Below.heap_setCell wr ⟨w.heap.size, 2, none⟩ _ _ (by show w.heap.size + 1 ≠ w.heap.size; omega)).trans h.pk, (Below.heap_setCell wr ⟨w.heap.size, 2, none⟩ _ _ (by show w.heap.size + 2 ≠ w.heap.size; omega)).trans h.res⟩
theorem Tak.drew {w wr : World} {me g cap cur : Nat} {p : Pk} (h : Tak w wr me g cap cur p) : Tak w wr.drew me g cap cur p := ⟨⟨h.bel.os, h.bel.tape, h.bel.output, h.bel.size, h.bel.block⟩, h.rv, h.pk, h.res⟩
end Go.Proofs.YtbfllifgmlkndaaGreatDoor
