/- The walk of the law SlotSets. -/
import Derived.Test.YtjjecdeacjbhaaaDoorRefWith
import Derived.Test.YtjjecdeacjbhaaaDoorWith
import Derived.Test.YtjjecdeacjbhaaaDoorQuiet
namespace Go.Proofs.YtjjecdeacjbhaaaDoor
open Go.RowKit
open Slot

theorem sameB_self (S : Nat → Bool) : sameB S S = true := (sameB_iff S S).2 fun _ _ => rfl
/-- what With makes -/
def withS (S : Nat → Bool) (n : Int) (on : Bool) : Nat → Bool := if 0 ≤ n ∧ n < 16384 then put S n.toNat n.toNat on else S
def inB (n : Int) : Bool := decide (0 ≤ n ∧ n < 16384)
theorem withS_has (S : Nat → Bool) (n : Int) (on : Bool) : (inB n && withS S n on n.toNat) = (on && decide (0 ≤ n) && decide (n < 16384)) := by
  unfold withS inB
  by_cases h : 0 ≤ n ∧ n < 16384
  · rw [if_pos h]
    simp [h, put]
  · rw [if_neg h, decide_eq_false h]
    by_cases h1 : 0 ≤ n
    · have h2 : ¬ n < 16384 := fun h2 => h ⟨h1, h2⟩
      simp [h2]
    · simp [h1]

set_option maxHeartbeats 2000000 in
set_option maxRecDepth 100000 in
theorem slotSets_walk (S : Nat → Bool) (n : Int) (on : Bool) (w : World) (hE : Env w) (_hn0 : -9223372036854775808 ≤ n) (_hn1 : n ≤ 9223372036854775807) :
    Calls Tryd.prog 6 #[.agg (cellsOf S), .int .i64 n, .bool on] w fun e w' => e = .returned (.bool true) ∧ Below w.heap.size w w' := by
  have hz := zeroBits
  have HB0 := hid (box_new w S)
  have HWi := hid (with_any S n on (w.alloc (.cells (cellsOf S) 30)))
  have HRW : Hid (∀ W, Calls Tryd.prog 15 #[.agg (cellsOf S), .int .i64 n, .bool on] W fun e w' => e = .returned (.agg (cellsOf (withS S n on))) ∧ Below W.heap.size W w') := fun W => rWith_any S n on W
  have HHas : Hid (∀ T W, Calls Tryd.prog 16 #[.agg (cellsOf T), .int .i64 n] W fun e w' => e = .returned (.bool (inB n && T n.toNat)) ∧ Below W.heap.size W w') := fun T W => has_any T n W
  have HRHas : Hid (∀ T W, Calls Tryd.prog 17 #[.agg (cellsOf T), .int .i64 n] W fun e w' => e = .returned (.bool (inB n && T n.toNat)) ∧ Below W.heap.size W w') := fun T W => rHas_any T n W
  have HA : Hid (∀ W, Below w.heap.size w W → Calls Tryd.prog 9 #[] W fun e w' => e = .returned (.bool true) ∧ Below W.heap.size W w') := fun W hb => alive_any W (hE.below hb hE.room)
  have HF := hid (withS_has S n on)
  clear hE
  go_enter Tryd.func6, Tryd.ntmps6
  go_wp2_with (refine wpList_load_row rfl 30 _ rfl w.heap.size rfl 30 _ (0, 0) _ HB0.out Tryd.underlying30 rfl (infoBits _) (Hid.out ?_))
  refine hid ?_
  go_wp2_with fail
  refine HWi.out.mono ?_
  rw [show (if 0 ≤ n ∧ n < 16384 then put S n.toNat n.toNat on else S) = withS S n on from rfl]
  rintro e w1 ⟨rfl, hb1⟩
  have HB1 := hid (HB0.out.below hb1 HB0.out.lt)
  have HW1 := hid ((below_alloc w (.cells (cellsOf S) 30)).trans (hb1.mono (by simp)))
  have HZ1 : Hid (Box (w1.alloc (.cells (cellsOf fun _ => false) 30)) w1.heap.size (fun _ => false)) := box_new w1 _
  clear hb1
  go_wp2_with (refine wpList_store_row rfl 30 _ _ rfl w1.heap.size (cellsOf (withS S n on)) rfl rfl 30 _ HZ1.out (infoBits _) (sizes _ _) (oneCells _) (Hid.out ?_))
  have BX : Hid (Box ((w1.alloc (.cells (cellsOf fun _ => false) 30)).setRow w1.heap.size (cellsOf (withS S n on))) w1.heap.size (withS S n on)) := box_size HZ1.out
  have B2 : Hid (Box ((w1.alloc (.cells (cellsOf fun _ => false) 30)).setRow w1.heap.size (cellsOf (withS S n on))) w.heap.size S) := by
    have h1 := HB1.out.below (below_alloc w1 (.cells (cellsOf fun _ => false) 30)) HB1.out.lt
    exact (setRow_other _ _ _ _ (by have := HB1.out.lt; omega)).trans h1
  have W2 : Hid (Below w.heap.size w ((w1.alloc (.cells (cellsOf fun _ => false) 30)).setRow w1.heap.size (cellsOf (withS S n on)))) := below_setRow (HW1.out.alloc HW1.out.size _) HW1.out.size _
  generalize (w1.alloc (.cells (cellsOf fun _ => false) 30)).setRow w1.heap.size (cellsOf (withS S n on)) = w2 at BX B2 W2 ⊢
  generalize w1.heap.size = b at BX ⊢
  refine hid ?_
  have C1 := hid fun d os => Calls.regrown_of (HA.out (Sort.grow (redrawn w2 d) os) (W2.out.trans ((below_regrown w2 d os).mono W2.out.size)))
  have C2 := hid fun d os => Calls.regrown_of (HRW.out (Sort.grow (redrawn w2 d) os))
  have C3 := hid fun T d os => Calls.regrown_of (HHas.out T (Sort.grow (redrawn w2 d) os))
  have C4 := hid fun T d os => Calls.regrown_of (HRHas.out T (Sort.grow (redrawn w2 d) os))
  have heq := eq_bits (withS S n on) (withS S n on)
  rw [sameB_self] at heq
  clear HWi HRW HHas HRHas HA HB0 HB1 HW1 HZ1
  cases on
  · go_wp2_with fail
    refine wp_region_quiet_below (by kernel_rfl) (by kernel_rfl) ?_
    repeat (first
      | (refine quiet_load rfl 30 _ rfl b rfl 30 _ (0, 0) _ (fun W hc => grown_box BX.out hc) Tryd.underlying30 rfl (infoBits _) ?_)
      | (refine quiet_load rfl 30 _ rfl w.heap.size rfl 30 _ (0, 0) _ (fun W hc => grown_box B2.out hc) Tryd.underlying30 rfl (infoBits _) ?_)
      | quiet_step (first | exact C1.out _ _ | exact C2.out _ _ | exact C3.out _ _ _ | exact C4.out _ _ _))
    refine wpQuiet_nil ?_
    intro _ hw'
    obtain ⟨⟨dq, osq⟩, hw''⟩ := hw'
    subst hw''
    go_wp2
    go_ret
    exact ⟨ret_bool (by rw [← Bool.not_and, HF.out]; simp), W2.out.trans ((below_regrown w2 dq osq).mono W2.out.size)⟩
  · by_cases h0 : 0 ≤ n
    · have d0 : decide (0 ≤ n) = true := decide_eq_true h0
      go_wp2_with fail
      refine wp_region_quiet_below (by kernel_rfl) (by kernel_rfl) ?_
      repeat (first
        | (refine quiet_load rfl 30 _ rfl b rfl 30 _ (0, 0) _ (fun W hc => grown_box BX.out hc) Tryd.underlying30 rfl (infoBits _) ?_)
        | (refine quiet_load rfl 30 _ rfl w.heap.size rfl 30 _ (0, 0) _ (fun W hc => grown_box B2.out hc) Tryd.underlying30 rfl (infoBits _) ?_)
        | quiet_step (first | exact C1.out _ _ | exact C2.out _ _ | exact C3.out _ _ _ | exact C4.out _ _ _))
      refine wpQuiet_nil ?_
      intro _ hw'
      obtain ⟨⟨dq, osq⟩, hw''⟩ := hw'
      subst hw''
      go_wp2
      go_ret
      exact ⟨ret_bool (by first | (simp only [HF.out]; simp [h0]; done) | (rw [← Bool.not_and, HF.out]; simp [h0])), W2.out.trans ((below_regrown w2 dq osq).mono W2.out.size)⟩
    · have d0 : decide (0 ≤ n) = false := decide_eq_false h0
      go_wp2_with fail
      refine wp_region_quiet_below (by kernel_rfl) (by kernel_rfl) ?_
      repeat (first
        | (refine quiet_load rfl 30 _ rfl b rfl 30 _ (0, 0) _ (fun W hc => grown_box BX.out hc) Tryd.underlying30 rfl (infoBits _) ?_)
        | (refine quiet_load rfl 30 _ rfl w.heap.size rfl 30 _ (0, 0) _ (fun W hc => grown_box B2.out hc) Tryd.underlying30 rfl (infoBits _) ?_)
        | quiet_step (first | exact C1.out _ _ | exact C2.out _ _ | exact C3.out _ _ _ | exact C4.out _ _ _))
      refine wpQuiet_nil ?_
      intro _ hw'
      obtain ⟨⟨dq, osq⟩, hw''⟩ := hw'
      subst hw''
      go_wp2
      go_ret
      exact ⟨ret_bool (by first | (simp only [HF.out]; simp [h0]; done) | (rw [← Bool.not_and, HF.out]; simp [h0])), W2.out.trans ((below_regrown w2 dq osq).mono W2.out.size)⟩

end Go.Proofs.YtjjecdeacjbhaaaDoor
