/- PkBuild. -/
import Derived.Test.YtbfllifgmlkndaaGreatDoorM22
namespace Go.Proofs.YtbfllifgmlkndaaGreatDoor
open Go.RowKit
open Slot

theorem zsize : Tryz.zeroCells53.size = 261 := by rw [zeroPk, pkCells_size]
set_option maxRecDepth 100000 in
theorem built_form (x0 x1 x2 ne nc : Nat) (X : Nat → Bool) : Array.foldl (fun cs (x : Value × Nat) => cs.setIfInBounds (5 + x.snd) x.fst)
          (((((Tryz.zeroCells53.setIfInBounds 0 (Value.int IntKind.i64 x0)).setIfInBounds 1 (Value.int IntKind.i64 x1)).setIfInBounds 2 (Value.int IntKind.i64 x2)).setIfInBounds 3 (Value.int IntKind.u64 ne)).setIfInBounds 4 (Value.int IntKind.u64 nc))
          (cellsOf X).zipIdx 0 (cellsOf X).size = pkCells ⟨x0, x1, x2, ne, nc, X⟩ := by
  have hs : (cellsOf X).size = 256 := cellsOf_size X
  have hz := zsize
  have a := fun w : World => build_pk ⟨x0, x1, x2, ne, nc, X⟩ w
  dsimp only at a
  simp only [go_sem, hs] at a
  simp [hz] at a
  exact a
theorem store_cells (b : Nat) (q z : Pk) (w : World) (h : w.heap[b]? = some (.cells (pkCells z) 53 (0, 0))) : (storeCells ⟨b, 0, none⟩ (pkCells q).toList).run Tryz.prog w = .ok () (w.setRow b (pkCells q)) := by
  have := run_storeVar_row (P := Tryz.prog) w b 53 53 _ _ h (infoPk q) (sizesPk _ _) (onePk _)
  have hz := pkCells_size q
  simp only [storeVar, Sem.run_bind, Tryz.sizeOf53, Value.cells, Result.andThen_ok, hz, ne_eq, not_true_eq_false, if_false] at this
  exact this
theorem range_setRow {w : World} {b o : Nat} {cs : List Value} (h : w.rangeAt b o cs) {g : Nat} (hne : g ≠ b) (C : Array Value) : (w.setRow g C).rangeAt b o cs := fun j v hv => by
  rw [World.cell?_of_block (w := w) (setRow_other w g b C (fun e => hne e.symm))]
  exact h j v hv

end Go.Proofs.YtbfllifgmlkndaaGreatDoor
