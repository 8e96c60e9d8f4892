/- PkMem. -/
import Derived.Deep.MidRow
import Derived.Test.YtbfllifgmlkndaaGreatDoorM04
import Derived.Test.YtbfllifgmlkndaaGreatDoorM15
import Derived.Test.YtbfllifgmlkndaaGreatDoorM07
namespace Go.Proofs.YtbfllifgmlkndaaGreatDoor
open Go.RowKit
open Slot

def pkCells (p : Pk) : Array Value := #[.int .i64 p.kind, .int .i64 p.frm, .int .i64 p.of_, .int .u64 (p.epoch : Int), .int .u64 (p.cur : Int)] ++ cellsOf p.cl
theorem pkCells_size (p : Pk) : (pkCells p).size = 261 := by simp [pkCells, cellsOf_size]
theorem pk_lo (p : Pk) {i : Nat} (h : i < 5) : (pkCells p)[i]? = (#[.int .i64 p.kind, .int .i64 p.frm, .int .i64 p.of_, .int .u64 (p.epoch : Int), .int .u64 (p.cur : Int)] : Array Value)[i]? := by
  unfold pkCells; rw [Array.getElem?_append_left (by simpa using h)]
theorem pk_hi (p : Pk) (i : Nat) : (pkCells p)[5 + i]? = (cellsOf p.cl)[i]? := by
  unfold pkCells; rw [Array.getElem?_append_right (by simp)]; simp
/-- a packet in block b -/
def PBox (w : World) (b : Nat) (p : Pk) : Prop := w.heap[b]? = some (.cells (pkCells p) 53 (0, 0))
theorem PBox.lt {w : World} {b : Nat} {p : Pk} (h : PBox w b p) : b < w.heap.size := (Array.getElem?_eq_some_iff.1 h).1
theorem PBox.below {w w' : World} {n b : Nat} {p : Pk} (h : PBox w b p) (hb : Below n w w') (hn : b < n) : PBox w' b p := (hb.block b hn).trans h
theorem PBox.cells {w : World} {b : Nat} {p : Pk} (h : PBox w b p) : w.cell? ⟨b, 0, none⟩ = some (.int .i64 p.kind) ∧ w.cell? ⟨b, 1, none⟩ = some (.int .i64 p.frm) ∧ w.cell? ⟨b, 2, none⟩ = some (.int .i64 p.of_) ∧ w.cell? ⟨b, 3, none⟩ = some (.int .u64 (p.epoch : Int)) ∧ w.cell? ⟨b, 4, none⟩ = some (.int .u64 (p.cur : Int)) := by
  refine ⟨?_, ?_, ?_, ?_, ?_⟩ <;> rw [cell_of_row w b _ _ _ _ h, pk_lo p (by decide)] <;> rfl
theorem PBox.range {w : World} {b : Nat} {p : Pk} (h : PBox w b p) : w.rangeAt b 5 (cellsOf p.cl).toList := fun j v hv => by
  rw [cell_of_row w b _ _ _ _ h, pk_hi, ← Array.getElem?_toList]; exact hv
theorem pbox_new (w : World) (p : Pk) : PBox (w.alloc (.cells (pkCells p) 53)) w.heap.size p := heap_alloc_new w _
theorem infoPk (p : Pk) : (Tryz.prog.info? 53).map (·.size) = some (pkCells p).size := by
  rw [pkCells_size]; kernel_rfl
theorem infoCl (S : Nat → Bool) : (Tryz.prog.info? 24).map (·.size) = some (cellsOf S).toList.length := by
  rw [Array.length_toList]; exact infoBits S
theorem onePk (p : Pk) : (pkCells p).all (·.oneCell') = true := by
  unfold pkCells
  rw [Array.all_append, oneCells, Bool.and_true]
  simp [Value.oneCell']
theorem sizesPk (p q : Pk) : (pkCells p).size = (pkCells q).size := by rw [pkCells_size, pkCells_size]
def zeroP : Pk := ⟨0, 0, 0, 0, 0, fun _ => false⟩
theorem zeroRepP : Tryz.zeroCells53 = #[.int .i64 0, .int .i64 0, .int .i64 0, .int .u64 0, .int .u64 0] ++ Array.replicate 256 (.int .u64 0) := by kernel_rfl
theorem zeroPk : Tryz.zeroCells53 = pkCells zeroP := by
  rw [zeroRepP, ← zeroRep, zeroBits]
  rfl
theorem pbox_set {w : World} {b : Nat} {p q : Pk} (h : PBox w b p) : PBox (w.setRow b (pkCells q)) b q := setRow_heap w b _ _ _ _ h
/-- a packet that is told lies in its own block -/
theorem ret_pk {fn : Func} {p : Tmp} (h : fn.results = #[.cell p 53]) {tmps : Array Value} {w : World} {b : Nat} {P : Pk} (hp : tmps.getD p undef = .pointer (some ⟨b, 0, none⟩)) (hB : PBox w b P) :
    (results fn tmps).run Tryz.prog w = .ok (.agg (pkCells P)) w :=
  results_cell_row h tmps w b 53 (pkCells P) (0, 0) _ hp hB Tryz.underlying53 rfl (infoPk P)
theorem ret_pk2 {fn : Func} {p q : Tmp} (h : fn.results = #[.cell p 53, .tmp q]) {tmps : Array Value} {w : World} {b : Nat} {P : Pk} {v : Value} (hp : tmps.getD p undef = .pointer (some ⟨b, 0, none⟩)) (hq : tmps.getD q undef = v) (hB : PBox w b P) :
    (results fn tmps).run Tryz.prog w = .ok (.tuple #[.agg (pkCells P), v]) w := by
  have hp' : tmps[p]?.getD undef = .pointer (some ⟨b, 0, none⟩) := by simpa using hp
  have hq' : tmps[q]?.getD undef = v := by simpa using hq
  simp [results, h, hp', hq', asAddr, run_loadVar_row w b 53 53 (pkCells P) (0, 0) _ hB Tryz.underlying53 rfl (infoPk P)]

theorem fill_get (off : Nat) : ∀ (l : List Value) (k : Nat) (cells : Array Value) (i : Nat), (((l.zipIdx k).foldl (fun cs (x : Value × Nat) => cs.setIfInBounds (off + x.2) x.1) cells))[i]? = if off + k ≤ i ∧ i < off + k + l.length ∧ i < cells.size then l[i - off - k]? else cells[i]?
  | [], k, cells, i => by
    rw [if_neg (by simp only [List.length_nil]; omega)]; rfl
  | v :: l, k, cells, i => by
    rw [List.zipIdx_cons, List.foldl_cons, fill_get off l (k + 1)]
    simp only [Array.size_setIfInBounds, List.length_cons]
    by_cases h1 : off + (k + 1) ≤ i ∧ i < off + (k + 1) + l.length ∧ i < cells.size
    · rw [if_pos h1, if_pos (by omega), show i - off - k = (i - off - (k + 1)) + 1 by omega, List.getElem?_cons_succ]
    · rw [if_neg h1]
      by_cases h2 : i = off + k
      · subst h2
        by_cases h3 : off + k < cells.size
        · rw [if_pos (by omega), Array.getElem?_setIfInBounds_self_of_lt h3, show off + k - off - k = 0 by omega]; rfl
        · rw [if_neg (by omega), Array.getElem?_eq_none (by simp; omega), Array.getElem?_eq_none (by omega)]
      · rw [Array.getElem?_setIfInBounds_ne (fun e => h2 e.symm), if_neg (by omega)]
theorem fill_row (a b c : Array Value) (h : c.size = b.size) : (c.zipIdx.foldl (fun cs (x : Value × Nat) => cs.setIfInBounds (a.size + x.2) x.1) (a ++ b)) = a ++ c := by
  have e : c.zipIdx.foldl (fun cs (x : Value × Nat) => cs.setIfInBounds (a.size + x.2) x.1) (a ++ b) = (c.toList.zipIdx 0).foldl (fun cs (x : Value × Nat) => cs.setIfInBounds (a.size + x.2) x.1) (a ++ b) := by
    rw [← Array.foldl_toList, Array.toList_zipIdx]
  rw [e]
  apply Array.ext_getElem?
  intro i
  rw [fill_get]
  simp only [Nat.add_zero, Array.length_toList, Nat.sub_zero, Array.size_append]
  by_cases h1 : i < a.size
  · rw [if_neg (by omega), Array.getElem?_append_left h1, Array.getElem?_append_left h1]
  · rw [Array.getElem?_append_right (by omega), Array.getElem?_append_right (by omega)]
    by_cases h2 : i < a.size + c.size
    · rw [if_pos (by omega), Array.getElem?_toList]
    · rw [if_neg (by omega), Array.getElem?_eq_none (by omega), Array.getElem?_eq_none (by omega)]
theorem fill_app (place : Nat → Option (Nat × Nat)) : ∀ (l m : List (Nat × Value)) (cells : Array Value), Instr.fill place cells (l ++ m) = (Instr.fill place cells l).bind fun c => Instr.fill place c m
  | [], m, cells => rfl
  | (i, v) :: l, m, cells => by
    simp only [List.cons_append, Instr.fill]
    cases place i with
    | none => rfl
    | some q =>
      simp only
      split
      · rfl
      · exact fill_app place l m _
def placesP : Array (Nat × Nat) := #[(0, 1), (1, 1), (2, 1), (3, 1), (4, 1), (5, 256)]
theorem built_any (parts : List (Nat × Value)) : Tryz.prog.built 53 parts = Instr.fill (fun i => placesP[i]?) (#[.int .i64 0, .int .i64 0, .int .i64 0, .int .u64 0, .int .u64 0] ++ Array.replicate 256 (.int .u64 0)) parts := by kernel_rfl
theorem built_five (k f o e c : Int) : Instr.fill (fun i => placesP[i]?) (#[.int .i64 0, .int .i64 0, .int .i64 0, .int .u64 0, .int .u64 0] ++ Array.replicate 256 (.int .u64 0)) [(0, .int .i64 k), (1, .int .i64 f), (2, .int .i64 o), (3, .int .u64 e), (4, .int .u64 c)] = some (#[.int .i64 k, .int .i64 f, .int .i64 o, .int .u64 e, .int .u64 c] ++ Array.replicate 256 (.int .u64 0)) := by kernel_rfl
theorem built_pk (p : Pk) : Tryz.prog.built 53 [(0, .int .i64 p.kind), (1, .int .i64 p.frm), (2, .int .i64 p.of_), (3, .int .u64 (p.epoch : Int)), (4, .int .u64 (p.cur : Int)), (5, .agg (cellsOf p.cl))] = some (pkCells p) := by
  rw [built_any]
  have := fill_app (fun i => placesP[i]?) [(0, .int .i64 p.kind), (1, .int .i64 p.frm), (2, .int .i64 p.of_), (3, .int .u64 (p.epoch : Int)), (4, .int .u64 (p.cur : Int))] [(5, .agg (cellsOf p.cl))] (#[.int .i64 0, .int .i64 0, .int .i64 0, .int .u64 0, .int .u64 0] ++ Array.replicate 256 (.int .u64 0))
  rw [List.cons_append, List.cons_append, List.cons_append, List.cons_append, List.cons_append, List.nil_append] at this
  rw [this, built_five, Option.bind_some]
  have h5 : placesP[5]? = some (5, 256) := rfl
  simp only [Instr.fill, h5, Value.cells, cellsOf_size, Array.size_append, Array.size_replicate]
  rw [if_neg (by simp)]
  refine congrArg some ?_
  exact fill_row #[.int .i64 p.kind, .int .i64 p.frm, .int .i64 p.of_, .int .u64 (p.epoch : Int), .int .u64 (p.cur : Int)] (Array.replicate 256 (.int .u64 0)) (cellsOf p.cl) (by rw [cellsOf_size]; simp)
theorem build_pk (p : Pk) (w : World) : (Instr.build 53 #[(0, .int .i64 p.kind), (1, .int .i64 p.frm), (2, .int .i64 p.of_), (3, .int .u64 (p.epoch : Int)), (4, .int .u64 (p.cur : Int)), (5, .agg (cellsOf p.cl))]).run Tryz.prog w = .ok (.agg (pkCells p)) w :=
  run_build w _ _ _ (built_pk p)
end Go.Proofs.YtbfllifgmlkndaaGreatDoor
