/- The calls Has, With, ones, Count on sets. -/
import Derived.Test.YtgpdbcigogkkbaaDoorKeys
import Derived.Test.YtgpdbcigogkkbaaDoorCounts
namespace Go.Proofs.YtgpdbcigogkkbaaDoor
open Go.RowKit
open Slot

theorem box_new (w : World) (S : Nat → Bool) : Box (w.alloc (.cells (cellsOf S) 24)) w.heap.size S := heap_alloc_new w _
theorem below_alloc (w : World) (o : Obj) : Below w.heap.size w (w.alloc o) := (Below.refl _ w).alloc (Nat.le_refl _) o

theorem infoBits (T : Nat → Bool) : (Tryd.prog.info? 24).map (·.size) = some (cellsOf T).size := by
  rw [cellsOf_size]; kernel_rfl
theorem zeroRep : Tryd.zeroCells24 = Array.replicate 256 (.int .u64 0) := by kernel_rfl
theorem zeroBits : Tryd.zeroCells24 = cellsOf (fun _ => false) := by
  apply Array.ext
  · rw [cellsOf_size]; kernel_rfl
  · intro i h1 h2
    have hi : i < 256 := by rw [cellsOf_size] at h2; exact h2
    have h := cellsOf_get (fun _ => false) i hi
    rw [word_none, Array.getElem?_eq_getElem h2] at h
    rw [Option.some.inj h]
    have := congrArg (fun c : Array Value => c[i]?) zeroRep
    rw [Array.getElem?_eq_getElem h1, Array.getElem?_replicate, if_pos hi] at this
    exact Option.some.inj this
theorem oneCells (T : Nat → Bool) : (cellsOf T).all (·.oneCell') = true := by
  rw [Array.all_eq_true]
  intro i hi
  simp [cellsOf, Value.oneCell']
theorem box_size {w : World} {b : Nat} {C : Array Value} {T : Nat → Bool} (h : w.heap[b]? = some (.cells C 24 (0, 0))) : Box (w.setRow b (cellsOf T)) b T := setRow_heap w b C _ _ _ h
theorem below_setRow {B : Nat} {a w : World} (h : Below B a w) {g : Nat} (hg : B ≤ g) (cs : Array Value) : Below B a (w.setRow g cs) :=
  h.trans ⟨rfl, rfl, rfl, by simp, fun k hk => setRow_other w g k cs (by omega)⟩
/-- a set that is told lies in its own block -/
theorem ret_box {fn : Func} {p : Tmp} (h : fn.results = #[.cell p 24]) {tmps : Array Value} {w : World} {b : Nat} {S : Nat → Bool} (hp : tmps.getD p undef = .pointer (some ⟨b, 0, none⟩)) (hB : Box w b S) :
    (results fn tmps).run Tryd.prog w = .ok (.agg (cellsOf S)) w :=
  results_cell_row h tmps w b 24 (cellsOf S) (0, 0) _ hp hB Tryd.underlying24 rfl (infoBits S)

theorem bit_one (x k : Nat) (hx : x < 18446744073709551616) : bits BinOp.and IntKind.u64 ((x : Int) / 2 ^ k) 1 = if x.testBit k then 1 else 0 := by
  have h : x / 2 ^ k < 18446744073709551616 := Nat.lt_of_le_of_lt (Nat.div_le_self _ _) hx
  have e : ((x : Int) / 2 ^ k) = ((x / 2 ^ k : Nat) : Int) := by simp
  rw [e, show (1 : Int) = ((1 : Nat) : Int) from rfl, u64_and_nat _ _ h (by decide), bit_and]
  cases x.testBit k <;> rfl
theorem index_bits (S : Nat → Bool) (i : Nat) (h : i < 256) (w : World) : (Instr.index 24 (.agg (cellsOf S)) (.int .i64 (i : Int))).run Tryd.prog w = .ok (.int .u64 (word S i : Int)) w := by
  have hc := cellsOf_get S i h
  have hh : (0 : Int) ≤ (i : Int) ∧ (i : Int) < 256 := by omega
  have u28 := Tryd.underlying22
  have a28 := Tryd.isAgg22
  have z28 := Tryd.sizeOf22
  have t30 := Tryd.underlying24
  unfold Instr.index
  go_simp
end Go.Proofs.YtgpdbcigogkkbaaDoor
