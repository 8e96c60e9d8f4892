/- The calls Has, With, ones, Count on sets. -/
import Derived.Test.YtlgghndpagoalaaDoorKeys
import Derived.Test.YtlgghndpagoalaaDoorCounts
namespace Go.Proofs.YtlgghndpagoalaaDoor
open Go.RowKit
open Slot

theorem box_new (w : World) (S : Nat → Bool) : Box (w.alloc (.cells (cellsOf S) 25)) w.heap.size S := heap_alloc_new w _
theorem below_alloc (w : World) (o : Obj) : Below w.heap.size w (w.alloc o) := (Below.refl _ w).alloc (Nat.le_refl _) o

set_option maxHeartbeats 1000000 in
/-- Has -/
theorem has_any (S : Nat → Bool) (n : Int) (w : World) :
    Calls Tryd.prog 10 #[.agg (cellsOf S), .int .i64 n] w fun e w' => e = .returned (.bool (decide (0 ≤ n ∧ n < 16384) && S n.toNat)) ∧ Below w.heap.size w w' := by
  have HI := hid (isSlot_any n)
  by_cases h : 0 ≤ n ∧ n < 16384
  · obtain ⟨k, rfl⟩ := Int.eq_ofNat_of_zero_le h.1
    have HN : Hid (∀ W, Box W w.heap.size S → Calls Tryd.prog 21 #[.pointer (some ⟨w.heap.size, 0, none⟩), .int .i64 k] W fun e w' => e = .returned (.bool (S k)) ∧ w' = W) := fun W hW => in_any w.heap.size k S W (by omega) hW
    rw [decide_eq_true h] at HI ⊢
    clear h
    go_enter Tryd.func10, Tryd.ntmps10
    go_wp2_with fail
    refine (HI.out _).mono ?_; rintro e w' ⟨rfl, rfl⟩
    go_wp2_with fail
    refine (HN.out _ (box_new w S)).mono ?_; rintro e w' ⟨rfl, rfl⟩
    go_wp2
    go_ret
    exact ⟨ret_bool rfl, below_alloc _ _⟩
  · rw [decide_eq_false h] at HI ⊢
    clear h
    go_enter Tryd.func10, Tryd.ntmps10
    go_wp2_with fail
    refine (HI.out _).mono ?_; rintro e w' ⟨rfl, rfl⟩
    go_wp2
    go_ret
    exact ⟨ret_bool rfl, below_alloc _ _⟩

theorem infoBits (T : Nat → Bool) : (Tryd.prog.info? 25).map (·.size) = some (cellsOf T).size := by
  rw [cellsOf_size]; kernel_rfl
theorem zeroRep : Tryd.zeroCells25 = Array.replicate 256 (.int .u64 0) := by kernel_rfl
theorem zeroBits : Tryd.zeroCells25 = cellsOf (fun _ => false) := by
  apply Array.ext
  · rw [cellsOf_size]; kernel_rfl
  · intro i h1 h2
    have hi : i < 256 := by rw [cellsOf_size] at h2; exact h2
    have h := cellsOf_get (fun _ => false) i hi
    rw [word_none, Array.getElem?_eq_getElem h2] at h
    rw [Option.some.inj h]
    have := congrArg (fun c : Array Value => c[i]?) zeroRep
    rw [Array.getElem?_eq_getElem h1, Array.getElem?_replicate, if_pos hi] at this
    exact Option.some.inj this
theorem oneCells (T : Nat → Bool) : (cellsOf T).all (·.oneCell') = true := by
  rw [Array.all_eq_true]
  intro i hi
  simp [cellsOf, Value.oneCell']
theorem box_size {w : World} {b : Nat} {C : Array Value} {T : Nat → Bool} (h : w.heap[b]? = some (.cells C 25 (0, 0))) : Box (w.setRow b (cellsOf T)) b T := setRow_heap w b C _ _ _ h
theorem below_setRow {B : Nat} {a w : World} (h : Below B a w) {g : Nat} (hg : B ≤ g) (cs : Array Value) : Below B a (w.setRow g cs) :=
  h.trans ⟨rfl, rfl, rfl, by simp, fun k hk => setRow_other w g k cs (by omega)⟩
/-- a set that is told lies in its own block -/
theorem ret_box {fn : Func} {p : Tmp} (h : fn.results = #[.cell p 25]) {tmps : Array Value} {w : World} {b : Nat} {S : Nat → Bool} (hp : tmps.getD p undef = .pointer (some ⟨b, 0, none⟩)) (hB : Box w b S) :
    (results fn tmps).run Tryd.prog w = .ok (.agg (cellsOf S)) w :=
  results_cell_row h tmps w b 25 (cellsOf S) (0, 0) _ hp hB Tryd.underlying25 rfl (infoBits S)

theorem bit_one (x k : Nat) (hx : x < 18446744073709551616) : bits BinOp.and IntKind.u64 ((x : Int) / 2 ^ k) 1 = if x.testBit k then 1 else 0 := by
  have h : x / 2 ^ k < 18446744073709551616 := Nat.lt_of_le_of_lt (Nat.div_le_self _ _) hx
  have e : ((x : Int) / 2 ^ k) = ((x / 2 ^ k : Nat) : Int) := by simp
  rw [e, show (1 : Int) = ((1 : Nat) : Int) from rfl, u64_and_nat _ _ h (by decide), bit_and]
  cases x.testBit k <;> rfl
set_option maxHeartbeats 1000000 in
/-- ones: how many bits a word has -/
theorem ones_any (x : Nat) (w : World) (hx : x < 18446744073709551616) :
    Calls Tryd.prog 25 #[.int .u64 x] w fun e w' => e = .returned (.int .i64 (count (fun k => x.testBit k) 64 : Int)) ∧ w' = w := by
  have HB := hid fun k => bit_one x k hx
  have hx0 : (0 : Int) ≤ (x : Int) := by omega
  have hx1 : (x : Int) < 18446744073709551616 := by omega
  generalize (x : Int) = X at HB hx0 hx1 ⊢
  clear hx
  go_enter Tryd.func25, Tryd.ntmps25
  go_wp2
  go_loop [3, 5] (fun n i => ∃ k : Nat, k ≤ 64 ∧ i = .int .i64 k ∧ n = .int .i64 (count (fun k => x.testBit k) k : Int)) (fun _ i => 64 - (intOf i).toNat)
  case atStart => exact ⟨0, Nat.zero_le _, rfl, rfl⟩
  case round =>
    obtain ⟨k, hk, rfl, rfl⟩ := hrel
    by_cases hlt : k < 64
    · have hb := HB.out k
      have HC : Hid (count (fun k => x.testBit k) (k + 1) = count (fun k => x.testBit k) k + if x.testBit k then 1 else 0) := rfl
      have hc := count_le (fun k => x.testBit k) k
      generalize count (fun k => x.testBit k) k = c at HC hc
      cases hbit : x.testBit k
      · rw [hbit] at hb HC
        have hb' : bits BinOp.and IntKind.u64 (X / 2 ^ k) 1 = 0 := hb
        clear hb hbit
        go_wp2
        go_round
        case rel => exact ⟨k + 1, by omega, by go_num, by rw [HC.out]; simp⟩
        case measure => simp [intOf]; omega
      · rw [hbit] at hb HC
        have hb' : bits BinOp.and IntKind.u64 (X / 2 ^ k) 1 = 1 := hb
        clear hb hbit
        go_wp2
        go_round
        case rel => exact ⟨k + 1, by omega, by go_num, by rw [HC.out]; simp⟩
        case measure => simp [intOf]; omega
    · have e : k = 64 := by omega
      subst e
      go_wp2
      go_ret
      exact ⟨rfl, rfl⟩

theorem index_bits (S : Nat → Bool) (i : Nat) (h : i < 256) (w : World) : (Instr.index 25 (.agg (cellsOf S)) (.int .i64 (i : Int))).run Tryd.prog w = .ok (.int .u64 (word S i : Int)) w := by
  have hc := cellsOf_get S i h
  have hh : (0 : Int) ≤ (i : Int) ∧ (i : Int) < 256 := by omega
  have u28 := Tryd.underlying23
  have a28 := Tryd.isAgg23
  have z28 := Tryd.sizeOf23
  have t30 := Tryd.underlying25
  unfold Instr.index
  go_simp
set_option maxHeartbeats 1000000 in
set_option maxRecDepth 100000 in
/-- Count -/
theorem count_any (S : Nat → Bool) (w : World) :
    Calls Tryd.prog 13 #[.agg (cellsOf S)] w fun e w' => e = .returned (.int .i64 (count S 16384 : Int)) ∧ Below w.heap.size w w' := by
  have HB := hid (box_new w S)
  go_enter Tryd.func13, Tryd.ntmps13
  go_wp2_with (refine wpList_load_row rfl 25 _ rfl w.heap.size rfl 25 _ (0, 0) _ HB.out Tryd.underlying25 rfl (infoBits _) ?_)
  go_loop [3, 7] (fun n i => ∃ k : Nat, k ≤ 256 ∧ i = .int .i64 k ∧ n = .int .i64 (count S (64 * k) : Int)) (fun _ i => 256 - (intOf i).toNat)
  case atStart => exact ⟨0, Nat.zero_le _, rfl, rfl⟩
  case round =>
    obtain ⟨k, hk, rfl, rfl⟩ := hrel
    have hc := count_le S (64 * k)
    by_cases hlt : k < 256
    · have hi := fun w => index_bits S k hlt w
      have HO := hid fun w => ones_any (word S k) w (word_lt S k)
      have HN := hid (count_next S k)
      have h1 := count_le (fun j => (word S k).testBit j) 64
      generalize count (fun j => (word S k).testBit j) 64 = d at HO HN h1
      generalize count S (64 * k) = c at HN hc
      generalize (word S k : Int) = x at hi HO
      go_wp2_with fail
      refine (HO.out _).mono ?_; rintro e w' ⟨rfl, rfl⟩
      go_wp2
      go_round
      case rel => exact ⟨k + 1, by omega, by go_num, by rw [HN.out]; simp⟩
      case measure => simp [intOf]; omega
    · have e : k = 256 := by omega
      subst e
      go_wp2
      go_ret
      exact ⟨rfl, below_alloc _ _⟩

end Go.Proofs.YtlgghndpagoalaaDoor
