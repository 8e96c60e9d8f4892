/- Shelf, Keys, Counts, Has. -/
import Derived.Lib.ConvBytes
import Derived.Test.YtdicjnkbmlamgabM02
import Derived.Lib.SlBytesConst
import Derived.Deep.Draws
import Derived.Test.YtdicjnkbmlamgabM05
import Derived.Test.YtdicjnkbmlamgabM01
namespace Go.Proofs.Ytdicjnkbmlamgab
open Go.RowKit
open Slot

theorem Below.drewN {B : Nat} {a w : World} (h : Below B a w) (n : Nat) : Below B a (w.drewN n) := ⟨h.os, h.tape, h.output, h.size, h.block⟩

theorem index_one (l : List UInt8) (c : UInt8) : Lib.indexByte l c = Lib.index l [c] := (Lib.index_one l c).symm
theorem ret_str {a b : List UInt8} (h : a = b) : Ending.returned (.string ⟨a.toArray⟩) = .returned (.string ⟨b.toArray⟩) := by rw [h]
theorem tag_eq (key : List UInt8) : tag key = if (cut 123 key).2.2 = false then key
  else if (cut 125 (cut 123 key).2.1).2.2 = false ∨ (cut 125 (cut 123 key).2.1).1 = [] then key
  else (cut 125 (cut 123 key).2.1).1 := rfl
theorem cut_short (c : UInt8) (l : List UInt8) : (cut c l).1.length ≤ l.length ∧ (cut c l).2.1.length ≤ l.length := by
  rcases cut_cases c l with ⟨p, r, rfl, h⟩ | h
  · rw [cut_hit h]; simp; omega
  · rw [cut_miss h]; simp

/-- a key's slot -/
def slotOf (l : List UInt8) : Nat := (Crc.more 0#16 ((tag l).map UInt8.toBitVec)).toNat % 16384
theorem bytesWorld_below (w : World) (e : TypeId) (s : ByteArray) : Below w.heap.size w (Lib.bytesWorld w e s) :=
  ⟨rfl, rfl, rfl, by rw [Lib.bytesWorld_size]; omega, fun k hk => Lib.bytesWorld_at_old w e s k hk⟩
theorem bytesWorld_row (w : World) (e : TypeId) (l : List UInt8) (hl : l.length ≤ 9223372036854775807) : Row (Lib.bytesWorld w e ⟨l.toArray⟩) (some ⟨w.heap.size, 0, none⟩) (l.map UInt8.toBitVec) := by
  refine ⟨by simpa using hl, fun _ => ⟨_, _, rfl, fun j hj => ?_⟩⟩
  have hj' : j < l.length := by simpa using hj
  rw [Nat.zero_add, Lib.bytesWorld_cell w e ⟨l.toArray⟩ j (by simpa [ByteArray.size] using hj')]
  simp [List.getD, hj']
end Go.Proofs.Ytdicjnkbmlamgab

namespace Go.Proofs.Ytdicjnkbmlamgab
namespace Slot

/-- how many of the first n are there -/
def count (f : Nat → Bool) : Nat → Nat
  | 0 => 0
  | n + 1 => count f n + if f n then 1 else 0
theorem count_succ (f : Nat → Bool) (n : Nat) : count f (n + 1) = count f n + if f n then 1 else 0 := rfl
theorem count_le (f : Nat → Bool) (n : Nat) : count f n ≤ n := by
  induction n with
  | zero => exact Nat.le_refl _
  | succ n ih => rw [count_succ]; split <;> omega
theorem count_congr {f g : Nat → Bool} {n : Nat} (h : ∀ k, k < n → f k = g k) : count f n = count g n := by
  induction n with
  | zero => rfl
  | succ n ih => rw [count_succ, count_succ, ih (fun k hk => h k (by omega)), h n (by omega)]
theorem count_add (f : Nat → Bool) (a n : Nat) : count f (a + n) = count f a + count (fun k => f (a + k)) n := by
  induction n with
  | zero => rfl
  | succ n ih => rw [← Nat.add_assoc, count_succ, count_succ, ih]; omega
theorem count_word (S : Nat → Bool) (i : Nat) : count (fun k => (word S i).testBit k) 64 = count (fun k => S (64 * i + k)) 64 :=
  count_congr fun k hk => by unfold word; rw [testBit_num]; simp [hk]
theorem count_next (S : Nat → Bool) (i : Nat) : count S (64 * (i + 1)) = count S (64 * i) + count (fun k => (word S i).testBit k) 64 := by
  rw [count_word, show 64 * (i + 1) = 64 * i + 64 by omega, count_add]
theorem count_filter (f : Nat → Bool) (n : Nat) : ((List.range n).filter f).length = count f n := by
  induction n with
  | zero => rfl
  | succ n ih =>
    rw [List.range_succ, List.filter_append, List.length_append, ih, count_succ]
    cases h : f n <;> simp [h]

end Slot
end Go.Proofs.Ytdicjnkbmlamgab

namespace Go.Proofs.Ytdicjnkbmlamgab
open Go.RowKit
open Slot

theorem box_new (w : World) (S : Nat → Bool) : Box (w.alloc (.cells (cellsOf S) 24)) w.heap.size S := heap_alloc_new w _
theorem below_alloc (w : World) (o : Obj) : Below w.heap.size w (w.alloc o) := (Below.refl _ w).alloc (Nat.le_refl _) o

theorem infoBits (T : Nat → Bool) : (Try.prog.info? 24).map (·.size) = some (cellsOf T).size := by
  rw [cellsOf_size]; kernel_rfl
theorem zeroRep : Try.zeroCells24 = Array.replicate 256 (.int .u64 0) := by kernel_rfl
theorem zeroBits : Try.zeroCells24 = cellsOf (fun _ => false) := by
  apply Array.ext
  · rw [cellsOf_size]; kernel_rfl
  · intro i h1 h2
    have hi : i < 256 := by rw [cellsOf_size] at h2; exact h2
    have h := cellsOf_get (fun _ => false) i hi
    rw [word_none, Array.getElem?_eq_getElem h2] at h
    rw [Option.some.inj h]
    have := congrArg (fun c : Array Value => c[i]?) zeroRep
    rw [Array.getElem?_eq_getElem h1, Array.getElem?_replicate, if_pos hi] at this
    exact Option.some.inj this
theorem oneCells (T : Nat → Bool) : (cellsOf T).all (·.oneCell') = true := by
  rw [Array.all_eq_true]
  intro i hi
  simp [cellsOf, Value.oneCell']
theorem box_size {w : World} {b : Nat} {C : Array Value} {T : Nat → Bool} (h : w.heap[b]? = some (.cells C 24 (0, 0))) : Box (w.setRow b (cellsOf T)) b T := setRow_heap w b C _ _ _ h
theorem below_setRow {B : Nat} {a w : World} (h : Below B a w) {g : Nat} (hg : B ≤ g) (cs : Array Value) : Below B a (w.setRow g cs) :=
  h.trans ⟨rfl, rfl, rfl, by simp, fun k hk => setRow_other w g k cs (by omega)⟩
/-- a set that is told lies in its own block -/
theorem ret_box {fn : Func} {p : Tmp} (h : fn.results = #[.cell p 24]) {tmps : Array Value} {w : World} {b : Nat} {S : Nat → Bool} (hp : tmps.getD p undef = .pointer (some ⟨b, 0, none⟩)) (hB : Box w b S) :
    (results fn tmps).run Try.prog w = .ok (.agg (cellsOf S)) w :=
  results_cell_row h tmps w b 24 (cellsOf S) (0, 0) _ hp hB Try.underlying24 rfl (infoBits S)

theorem bit_one (x k : Nat) (hx : x < 18446744073709551616) : bits BinOp.and IntKind.u64 ((x : Int) / 2 ^ k) 1 = if x.testBit k then 1 else 0 := by
  have h : x / 2 ^ k < 18446744073709551616 := Nat.lt_of_le_of_lt (Nat.div_le_self _ _) hx
  have e : ((x : Int) / 2 ^ k) = ((x / 2 ^ k : Nat) : Int) := by simp
  rw [e, show (1 : Int) = ((1 : Nat) : Int) from rfl, u64_and_nat _ _ h (by decide), bit_and]
  cases x.testBit k <;> rfl
theorem index_bits (S : Nat → Bool) (i : Nat) (h : i < 256) (w : World) : (Instr.index 24 (.agg (cellsOf S)) (.int .i64 (i : Int))).run Try.prog w = .ok (.int .u64 (word S i : Int)) w := by
  have hc := cellsOf_get S i h
  have hh : (0 : Int) ≤ (i : Int) ∧ (i : Int) < 256 := by omega
  have u28 := Try.underlying22
  have a28 := Try.isAgg22
  have z28 := Try.sizeOf22
  have t30 := Try.underlying24
  unfold Instr.index
  go_simp
end Go.Proofs.Ytdicjnkbmlamgab
