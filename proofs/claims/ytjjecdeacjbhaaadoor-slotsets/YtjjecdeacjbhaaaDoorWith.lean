/- With: a slot put into a set, or out. -/
import Derived.Test.YtjjecdeacjbhaaaDoorHas
namespace Go.Proofs.YtjjecdeacjbhaaaDoor
open Go.RowKit
open Slot

set_option maxHeartbeats 1000000 in
/-- With -/
theorem with_any (S : Nat → Bool) (n : Int) (on : Bool) (w : World) :
    Calls Tryd.prog 14 #[.agg (cellsOf S), .int .i64 n, .bool on] w fun e w' => e = .returned (.agg (cellsOf (if 0 ≤ n ∧ n < 16384 then put S n.toNat n.toNat on else S))) ∧ Below w.heap.size w w' := by
  have HI := hid (isSlot_any n)
  have hz := zeroBits
  have HB0 : Hid (Box ((w.alloc (.cells (cellsOf S) 30)).alloc (.cells (cellsOf (fun _ => false)) 30)) w.heap.size S) := heap_alloc2_old w _ _
  have HZ0 : Hid (Box ((w.alloc (.cells (cellsOf S) 30)).alloc (.cells (cellsOf (fun _ => false)) 30)) (w.heap.size + 1) (fun _ => false)) := heap_alloc2_new w _ _
  have HW0 : Hid (Below w.heap.size w ((w.alloc (.cells (cellsOf S) 30)).alloc (.cells (cellsOf (fun _ => false)) 30))) := (below_alloc w _).alloc (by simp) _
  by_cases h : 0 ≤ n ∧ n < 16384
  · obtain ⟨k, rfl⟩ := Int.eq_ofNat_of_zero_le h.1
    rw [decide_eq_true h] at HI
    rw [if_pos h, Int.toNat_natCast]
    have HS := hid (set_any w.heap.size k k on S _ HB0.out (Nat.le_refl _) (by omega))
    clear h
    go_enter Tryd.func14, Tryd.ntmps14
    go_wp2_with fail
    refine (HI.out _).mono ?_; rintro e w' ⟨rfl, rfl⟩
    go_wp2_with fail
    refine HS.out.mono ?_; rintro e w1 ⟨rfl, hb1, ho1⟩
    have HL := hid hb1
    have HZ := hid (HZ0.out.only ho1 (by omega))
    have HW := hid (HW0.out.trans (ho1.below (Nat.le_refl _) (by simp; omega)))
    clear hb1 ho1
    go_wp2_with (refine wpList_load_row rfl 30 _ rfl w.heap.size rfl 30 _ (0, 0) _ HL.out Tryd.underlying30 rfl (infoBits _) ?_; refine wpList_store_row rfl 30 _ _ rfl (w.heap.size + 1) _ rfl rfl 30 _ HZ.out (infoBits _) ?_ (oneCells _) ?_; rw [cellsOf_size, cellsOf_size])
    exact bodyPost_ret (v := .agg (cellsOf (put S k k on))) (ret_box rfl rfl (box_size HZ.out)) rfl ⟨rfl, below_setRow HW.out (by omega) _⟩
  · rw [decide_eq_false h] at HI
    rw [if_neg h]
    clear h
    go_enter Tryd.func14, Tryd.ntmps14
    go_wp2_with fail
    refine (HI.out _).mono ?_; rintro e w' ⟨rfl, rfl⟩
    go_wp2_with (refine wpList_load_row rfl 30 _ rfl w.heap.size rfl 30 _ (0, 0) _ HB0.out Tryd.underlying30 rfl (infoBits _) ?_; refine wpList_store_row rfl 30 _ _ rfl (w.heap.size + 1) _ rfl rfl 30 _ HZ0.out (infoBits _) ?_ (oneCells _) ?_; rw [cellsOf_size, cellsOf_size])
    exact bodyPost_ret (v := .agg (cellsOf S)) (ret_box rfl rfl (box_size HZ0.out)) rfl ⟨rfl, below_setRow HW0.out (by omega) _⟩


end Go.Proofs.YtjjecdeacjbhaaaDoor
