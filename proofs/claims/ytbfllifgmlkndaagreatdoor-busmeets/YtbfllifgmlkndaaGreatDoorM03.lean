/- Words. -/
import Derived.WalkKit
import Derived.WalkSpells
import Derived.WalkLawsBesides
import Derived.Laws.Rows
import Derived.Deep.RegionWith
import Derived.RegionTactic
import Derived.Deep.QuietTactic
import Derived.BigQuiet
import Derived.Laws.BitsAllLaws
import Derived.Below
import Derived.Test.YtbfllifgmlkndaaGreatDoorM01
namespace Go.Proofs.YtbfllifgmlkndaaGreatDoor
open Go.RowKit
open Slot

theorem hid {p : Prop} (h : p) : Hid p := h
theorem ret_int {k : IntKind} {a b : Int} (h : a = b) : Ending.returned (.int k a) = .returned (.int k b) := by rw [h]
theorem ret_bool {a b : Bool} (h : a = b) : Ending.returned (.bool a) = .returned (.bool b) := by rw [h]

/-- a set's words -/
def cellsOf (S : Nat → Bool) : Array Value := Array.ofFn (n := 256) fun i => .int .u64 (word S i.val : Int)
theorem cellsOf_size (S : Nat → Bool) : (cellsOf S).size = 256 := by simp [cellsOf]
theorem cellsOf_get (S : Nat → Bool) (i : Nat) (h : i < 256) : (cellsOf S)[i]? = some (.int .u64 (word S i : Int)) := by simp [cellsOf, h]
/-- a set lies in the block b -/
def Box (w : World) (b : Nat) (S : Nat → Bool) : Prop := w.heap[b]? = some (.cells (cellsOf S) 24 (0, 0))
theorem Box.cell {w : World} {b : Nat} {S : Nat → Bool} (h : Box w b S) (i : Nat) (hi : i < 256) : w.cell? ⟨b, i, none⟩ = some (.int .u64 (word S i : Int)) := by
  rw [cell_of_row w b i _ _ _ h, cellsOf_get S i hi]

theorem isSlot_any (n : Int) (w : World) : Calls Tryz.prog 112 #[.int .i64 n] w fun e w' => e = .returned (.bool (decide (0 ≤ n ∧ n < 16384))) ∧ w' = w := by
  go_enter Tryz.func112, Tryz.ntmps112
  go_wp2
  · go_ret
    exact ⟨ret_bool (by simp [*]), rfl⟩
  · go_ret
    exact ⟨ret_bool (by rw [decide_eq_false (by omega)]; rfl), rfl⟩

theorem bit_int (x k : Nat) (hx : x < 18446744073709551616) : (bits BinOp.and IntKind.u64 ((x : Int) / 2 ^ k) 1 != 0) = x.testBit k := by
  have h : x / 2 ^ k < 18446744073709551616 := Nat.lt_of_le_of_lt (Nat.div_le_self _ _) hx
  have e : ((x : Int) / 2 ^ k) = ((x / 2 ^ k : Nat) : Int) := by simp
  rw [e, show (1 : Int) = ((1 : Nat) : Int) from rfl, u64_and_nat _ _ h (by decide), bit_and]
  cases x.testBit k <;> rfl
set_option maxHeartbeats 400000 in
/-- in: is a slot there? -/
theorem in_any (b : Nat) (n : Nat) (S : Nat → Bool) (w : World) (hn : n < 16384) (hB : Box w b S) :
    Calls Tryz.prog 109 #[.pointer (some ⟨b, 0, none⟩), .int .i64 n] w fun e w' => e = .returned (.bool (S n)) ∧ w' = w := by
  have hc := hB.cell (n / 64) (by omega)
  have HE := hid (bit_int (word S (n / 64)) (n % 64) (word_lt S _))
  rw [word_bit] at HE
  have h0 : (0 : Int) ≤ (word S (n / 64) : Int) := by omega
  have h1 : (word S (n / 64) : Int) < 18446744073709551616 := by have := word_lt S (n / 64); omega
  generalize (word S (n / 64) : Int) = x at hc HE h0 h1
  clear hB
  go_enter Tryz.func109, Tryz.ntmps109
  go_wp2
  go_ret
  exact ⟨ret_bool HE.out, rfl⟩

theorem wrapM (low : Nat) : IntKind.u64.wrap (18446744073709551615 * 2 ^ low) = ((18446744073709551615 * 2 ^ low % 18446744073709551616 : Nat) : Int) := by
  rw [IntKind.wrap_u64, Int.natCast_emod, Int.natCast_mul, Int.natCast_pow]
  rfl
theorem mask_int {f t i low high : Nat} (h1 : low = f - 64 * i) (h2 : high = min (t - 64 * i) 63) (h3 : 64 * i ≤ t) :
    bits BinOp.and IntKind.u64 (IntKind.u64.wrap (18446744073709551615 * 2 ^ low)) (18446744073709551615 / 2 ^ (63 - high)) = (mask f t i : Int) := by
  have e : (18446744073709551615 : Int) / 2 ^ (63 - high) = ((18446744073709551615 / 2 ^ (63 - high) : Nat) : Int) := by simp
  rw [wrapM, e, u64_and_nat _ _ (Nat.mod_lt _ (by decide)) (Nat.lt_of_le_of_lt (Nat.div_le_self _ _) (by decide)), mask_eq h1 h2 h3]
set_option maxHeartbeats 400000 in
/-- mask: the bits of a word that a range covers -/
theorem mask_any (f t i : Nat) (w : World) (h3 : t < 16384) (h6 : f < 64 * i + 64) (h7 : 64 * i ≤ t) :
    Calls Tryz.prog 101 #[.agg #[.int .i64 f, .int .i64 t], .int .i64 i] w fun e w' => e = .returned (.int .u64 (mask f t i : Int)) ∧ ∃ k, w' = (w.alloc (.cells #[.int .i64 f, .int .i64 t] 116)).drewN k := by
  have HM := hid (fun low high => mask_int (f := f) (t := t) (i := i) (low := low) (high := high))
  go_enter Tryz.func101, Tryz.ntmps101
  go_wp2
  all_goals go_quiet ((fail))
  all_goals go_wp2
  all_goals go_ret
  all_goals refine ⟨ret_int ?_, _, rfl⟩
  · exact HM.out 0 63 (by omega) (by omega) (by omega)
  · exact HM.out 0 (t - i * 64) (by omega) (by omega) (by omega)
  · exact HM.out (f - i * 64) 63 (by omega) (by omega) (by omega)
  · exact HM.out (f - i * 64) (t - i * 64) (by omega) (by omega) (by omega)

/-- nothing has turned but the block b -/
structure Only (b : Nat) (w w' : World) : Prop where
  os : w'.os = w.os
  tape : w'.tape = w.tape
  output : w'.output = w.output
  size : w.heap.size ≤ w'.heap.size
  block : ∀ k, k < w.heap.size → k ≠ b → w'.heap[k]? = w.heap[k]?
theorem Only.refl (b : Nat) (w : World) : Only b w w := ⟨rfl, rfl, rfl, Nat.le_refl _, fun _ _ _ => rfl⟩
theorem Only.trans {b : Nat} {x y z : World} (h : Only b x y) (k : Only b y z) : Only b x z :=
  ⟨k.os.trans h.os, k.tape.trans h.tape, k.output.trans h.output, Nat.le_trans h.size k.size, fun i hi hb => (k.block i (Nat.lt_of_lt_of_le hi h.size) hb).trans (h.block i hi hb)⟩
theorem Only.of_below {b : Nat} {w w' : World} (h : Below w.heap.size w w') : Only b w w' := ⟨h.os, h.tape, h.output, h.size, fun k hk _ => h.block k hk⟩
theorem Only.below {b n : Nat} {w w' : World} (h : Only b w w') (hn : n ≤ b) (hw : n ≤ w.heap.size) : Below n w w' := ⟨h.os, h.tape, h.output, h.size, fun k hk => h.block k (by omega) (by omega)⟩
theorem Only.alloc {b : Nat} {a w : World} (h : Only b a w) (o : Obj) : Only b a (w.alloc o) := h.trans (.of_below ((Below.refl _ w).alloc (Nat.le_refl _) o))
theorem Only.drew {b : Nat} {a w : World} (h : Only b a w) : Only b a w.drew := ⟨h.os, h.tape, h.output, h.size, h.block⟩
theorem Only.drewN {b : Nat} {a w : World} (h : Only b a w) (n : Nat) : Only b a (w.drewN n) := ⟨h.os, h.tape, h.output, h.size, h.block⟩
theorem Only.setCell {b : Nat} {a w : World} (h : Only b a w) (i : Nat) (v : Value) : Only b a (w.setCell ⟨b, i, none⟩ v) :=
  h.trans ⟨rfl, rfl, rfl, by simp, fun k _ hb => Below.heap_setCell _ _ _ _ hb⟩
theorem Box.below {w w' : World} {b : Nat} {S : Nat → Bool} {n : Nat} (h : Box w b S) (hb : Below n w w') (hn : b < n) : Box w' b S := (hb.block b hn).trans h
theorem Box.lt {w : World} {b : Nat} {S : Nat → Bool} (h : Box w b S) : b < w.heap.size := (Array.getElem?_eq_some_iff.1 h).1
theorem Box.only {w w' : World} {b c : Nat} {S : Nat → Bool} (h : Box w b S) (hb : Only c w w') (hn : b ≠ c) : Box w' b S := (hb.block b h.lt hn).trans h
theorem Box.congr {w : World} {b : Nat} {S T : Nat → Bool} (h : Box w b S) (e : ∀ n, n < top → S n = T n) : Box w b T := by
  have : cellsOf S = cellsOf T := by
    unfold cellsOf
    congr 1
    funext i
    rw [word_congr (i := i.val) fun k hk => e _ (by have := i.isLt; unfold top; omega)]
  unfold Box at h ⊢
  rw [← this]; exact h
/-- one word of a set in memory has been written -/
theorem Box.set {w : World} {b : Nat} {S T : Nat → Bool} (h : Box w b S) (i : Nat) (e : ∀ j, j < 256 → word T j = if j = i then word T i else word S j) : Box (w.setCell ⟨b, i, none⟩ (.int .u64 (word T i : Int))) b T := by
  have := heap_setCell_same w b i _ _ (.int .u64 (word T i : Int)) h
  unfold Box
  rw [this]
  refine congrArg (fun C => some (Obj.cells C 24 (0, 0))) ?_
  apply Array.ext
  · simp [cellsOf]
  · intro j h1 h2
    have hj : j < 256 := by simpa [cellsOf] using h2
    rw [Array.getElem_setIfInBounds (by simpa [cellsOf] using hj)]
    simp only [cellsOf, Array.getElem_ofFn]
    rw [e j hj]
    by_cases c : i = j
    · subst c; simp
    · rw [if_neg c, if_neg (fun x => c x.symm)]

/-- the words below k are done -/
def upTo (S : Nat → Bool) (f t : Nat) (on : Bool) (k : Nat) : Nat → Bool := fun n => if n < 64 * k then put S f t on n else S n
theorem upTo_first {S : Nat → Bool} {f t : Nat} {on : Bool} : ∀ n, upTo S f t on (f / 64) n = S n := fun n => by
  unfold upTo put
  split
  · rw [if_neg (by omega)]
  · rfl
theorem upTo_last {S : Nat → Bool} {f t : Nat} {on : Bool} : ∀ n, upTo S f t on (t / 64 + 1) n = put S f t on n := fun n => by
  unfold upTo
  split
  · rfl
  · unfold put
    rw [if_neg (by omega)]
theorem upTo_at {S : Nat → Bool} {f t : Nat} {on : Bool} {k : Nat} : word (upTo S f t on k) k = word S k := word_congr fun j _ => by
  unfold upTo
  rw [if_neg (by omega)]
theorem upTo_next {S : Nat → Bool} {f t : Nat} {on : Bool} {k : Nat} : word (upTo S f t on (k + 1)) k = word (put S f t on) k := word_congr fun j _ => by
  unfold upTo
  rw [if_pos (by omega)]
theorem upTo_other {S : Nat → Bool} {f t : Nat} {on : Bool} {k j : Nat} (h : j ≠ k) : word (upTo S f t on (k + 1)) j = word (upTo S f t on k) j := word_congr fun m _ => by
  unfold upTo
  rcases Nat.lt_or_gt_of_ne h with h | h
  · rw [if_pos (by omega), if_pos (by omega)]
  · rw [if_neg (by omega), if_neg (by omega)]
theorem set_step {wr : World} {b k : Nat} {S : Nat → Bool} {f t : Nat} {on : Bool} (h : Box wr b (upTo S f t on k)) (o : Obj) (m : Nat) (v : Int) (hv : v = (word (put S f t on) k : Int)) :
    Box (((wr.alloc o).drewN m).setCell ⟨b, k, none⟩ (.int .u64 v)) b (upTo S f t on (k + 1)) := by
  have h1 : Box ((wr.alloc o).drewN m) b (upTo S f t on k) := h.only (((Only.refl (wr.heap.size + 1) wr).alloc o).drewN m) (by have := h.lt; omega)
  have h2 := h1.set (T := upTo S f t on (k + 1)) k fun j _ => by
    by_cases e : j = k
    · subst e; simp
    · rw [if_neg e]; exact upTo_other e
  rw [upTo_next, ← hv] at h2
  exact h2
theorem step_off (S : Nat → Bool) (f t k : Nat) : bits BinOp.andNot IntKind.u64 (word S k : Int) (mask f t k : Int) = (word (put S f t false) k : Int) := by
  rw [u64_andNot_nat _ _ (word_lt S k) (mask_lt f t k), word_clear]
theorem step_on (S : Nat → Bool) (f t k : Nat) : bits BinOp.or IntKind.u64 (word S k : Int) (mask f t k : Int) = (word (put S f t true) k : Int) := by
  rw [u64_or_nat _ _ (word_lt S k) (mask_lt f t k), word_on]
def intOf : Value → Int | .int _ q => q | _ => 0

set_option maxHeartbeats 2000000 in
set_option maxRecDepth 100000 in
/-- set: a range is put in, or out -/
theorem set_any (b f t : Nat) (on : Bool) (S : Nat → Bool) (w : World) (hB : Box w b S) (h2 : f ≤ t) (h3 : t < 16384) :
    Calls Tryz.prog 90 #[.pointer (some ⟨b, 0, none⟩), .agg #[.int .i64 f, .int .i64 t], .bool on] w fun e w' => e = .returned (.tuple #[]) ∧ Box w' b (put S f t on) ∧ Only b w w' := by
  have HB := hid hB
  have hb : b < w.heap.size := hB.lt
  clear hB
  go_enter Tryz.func90, Tryz.ntmps90
  go_wp2
  go_loopw [6] (fun i W => ∃ k : Nat, f / 64 ≤ k ∧ k ≤ t / 64 + 1 ∧ i = .int .i64 k ∧ Hid (Box W b (upTo S f t on k)) ∧ Hid (Only b (w.alloc (.cells #[.int .i64 f, .int .i64 t] 116)) W)) (fun i _ => t / 64 + 1 - (intOf i).toNat)
  case atStart => exact ⟨f / 64, Nat.le_refl _, by omega, by go_num, (HB.out.below ((Below.refl _ w).alloc (Nat.le_refl _) _) hb).congr (fun n _ => (upTo_first n).symm), Only.refl _ _⟩
  case round =>
    obtain ⟨k, hk1, hk2, rfl, HBk, HO⟩ := hrel
    have c0 : wr.cell? ⟨w.heap.size, 0, none⟩ = some (.int .i64 f) := by
      rw [World.cell?_of_block (w := w.alloc (.cells #[.int .i64 f, .int .i64 t] 116)) (HO.out.block w.heap.size (by simp) (by omega))]; simp
    have c1 : wr.cell? ⟨w.heap.size, 1, none⟩ = some (.int .i64 t) := by
      rw [World.cell?_of_block (w := w.alloc (.cells #[.int .i64 f, .int .i64 t] 116)) (HO.out.block w.heap.size (by simp) (by omega))]; simp
    have hwr : w.heap.size < wr.heap.size := by have := HO.out.size; simp at this; omega
    have hbr : b < wr.heap.size := by omega
    by_cases hlt : k ≤ t / 64
    · have cb : wr.cell? ⟨b, k, none⟩ = some (.int .u64 (word S k : Int)) := by rw [HBk.out.cell k (by omega), upTo_at]
      have fb : wr.frozen? ⟨b, k, none⟩ = false := frozen_of_row wr b k _ _ HBk.out
      have ub := word_lt S k
      have HM : Hid (∀ W, Calls Tryz.prog 101 #[.agg #[.int .i64 f, .int .i64 t], .int .i64 k] W fun e w' => e = .returned (.int .u64 (mask f t k : Int)) ∧ ∃ n, w' = (W.alloc (.cells #[.int .i64 f, .int .i64 t] 116)).drewN n) := fun W => mask_any f t k W h3 (by omega) (by omega)
      have HS := hid (fun o m v hv => set_step (v := v) HBk.out o m hv)
      have HOff := hid (step_off S f t k)
      have HOn := hid (step_on S f t k)
      cases on
      · go_wp2_with fail
        go_region_with (go_at_call 101; refine (HM.out _).mono ?_; rintro e w' ⟨rfl, n, rfl⟩)
        all_goals go_wp2
        all_goals go_roundw
        all_goals first
          | (case rel => exact ⟨k + 1, by omega, by omega, by go_num, HS.out _ _ _ HOff.out, ((HO.out.alloc _).drewN _).setCell _ _⟩)
          | skip
        all_goals (simp [intOf]; omega)
      · go_wp2_with fail
        go_region_with (go_at_call 101; refine (HM.out _).mono ?_; rintro e w' ⟨rfl, n, rfl⟩)
        all_goals go_wp2
        all_goals go_roundw
        all_goals first
          | (case rel => exact ⟨k + 1, by omega, by omega, by go_num, HS.out _ _ _ HOn.out, ((HO.out.alloc _).drewN _).setCell _ _⟩)
          | skip
        all_goals (simp [intOf]; omega)
    · have e : k = t / 64 + 1 := by omega
      go_wp2
      go_end0
      have HBk' := HBk.out
      rw [e] at HBk'
      exact ⟨rfl, HBk'.congr (fun n _ => upTo_last n), ((Only.refl b w).alloc _).trans HO.out⟩

end Go.Proofs.YtbfllifgmlkndaaGreatDoor
