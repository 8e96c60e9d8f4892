/- ArrEq. -/
import Derived.Test.YtbfllifgmlkndaaGreatDoorM06
namespace Go.Proofs.YtbfllifgmlkndaaGreatDoor
open Go.RowKit
open Slot

/-- are two sets the same? -/
def sameB (S T : Nat → Bool) : Bool := (List.range' 0 256).all fun i => word S i == word T i
theorem sameB_iff (S T : Nat → Bool) : sameB S T = true ↔ ∀ n, n < top → S n = T n := by
  unfold sameB
  rw [List.all_eq_true]
  constructor
  · intro h
    exact word_inj fun i hi => by simpa using h i (by simp; omega)
  · intro h i hi
    have hi' : i < 256 := by simp at hi; omega
    simp only [beq_iff_eq]
    exact word_congr fun k _ => h _ (by unfold top; omega)
theorem eq_loop (S T : Nat → Bool) (w : World) : ∀ L : List Nat, (∀ i ∈ L, i < 256) →
    Sem.run Tryz.prog (forIn (m := Sem) L ((none, ()) : Option Bool × Unit) fun i __s => do
      let __do_lift ← part 22 (cellsOf S) (i * 1)
      let __do_lift_1 ← part 22 (cellsOf T) (i * 1)
      let __do_lift ← Op.equalIn 9999 22 __do_lift __do_lift_1
      if (!__do_lift) = true then pure (ForInStep.done (some false, ())) else pure (ForInStep.yield (none, ()))) w
    = .ok (if L.all (fun i => word S i == word T i) then (none, ()) else (some false, ())) w
  | [], _ => by simp
  | i :: L, h => by
    have u3 := Tryz.underlying22
    have a3 := Tryz.isAgg22
    have z3 := Tryz.sizeOf22
    have ih := eq_loop S T w L (fun j hj => h j (List.mem_cons_of_mem _ hj))
    have hi := h i (by simp)
    have hS := cellsOf_get S i hi
    have hT := cellsOf_get T i hi
    rw [List.forIn_cons]
    rw [Nat.mul_one]
    simp only [part, Sem.run_bind, a3, Result.andThen_ok, hS, hT, Sem.run_pure, Bool.false_eq_true, if_false]
    rw [show (9999 : Nat) = 9998 + 1 from rfl, run_equalIn_int w 9998 22 .u64 .u64 _ _ u3]
    simp only [Result.andThen_ok]
    by_cases e : word S i = word T i
    · rw [show (((word S i : Nat) : Int) == ((word T i : Nat) : Int)) = true by rw [e]; simp]
      simp only [Bool.not_true, Bool.false_eq_true, if_false, Sem.run_pure, Result.andThen_ok]
      have ee : (word S i == word T i) = true := by simp [e]
      simp only [List.all_cons, ee, Bool.true_and]
      exact ih
    · have e1 : (((word S i : Nat) : Int) == ((word T i : Nat) : Int)) = false := by rw [beq_eq_false_iff_ne]; omega
      have e2 : (word S i == word T i) = false := by rw [beq_eq_false_iff_ne]; exact e
      rw [e1]
      simp [e2]
theorem eq_bits (S T : Nat → Bool) (w : World) : (Op.equalIn 10000 24 (.agg (cellsOf S)) (.agg (cellsOf T))).run Tryz.prog w = .ok (sameB S T) w := by
  have z3 := Tryz.sizeOf22
  rw [show (10000 : Nat) = 9999 + 1 from rfl, Op.equalIn]
  simp only [Sem.run_bind, run_underlying Tryz.underlying24, Result.andThen_ok]
  simp only [Std.Legacy.Range.forIn_eq_forIn_range', Std.Legacy.Range.size, Nat.sub_zero, Nat.add_sub_cancel, Nat.div_one]
  rw [z3]
  simp only [Result.andThen_ok]
  rw [eq_loop S T w (List.range' 0 256) (fun i hi => by simp at hi; omega)]
  unfold sameB
  cases (List.range' 0 256).all fun i => word S i == word T i <;> rfl

end Go.Proofs.YtbfllifgmlkndaaGreatDoor
