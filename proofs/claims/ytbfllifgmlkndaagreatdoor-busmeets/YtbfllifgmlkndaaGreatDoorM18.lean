/- PkRight. -/
import Derived.Test.YtbfllifgmlkndaaGreatDoorM16
namespace Go.Proofs.YtbfllifgmlkndaaGreatDoor
open Go.RowKit
open Slot

def nodeB (n : Int) : Bool := decide (0 ≤ n ∧ n < 64)
theorem isNode_any (n : Int) (w : World) : Calls Tryz.prog 88 #[.int .i64 n] w fun e w' => e = .returned (.bool (nodeB n)) ∧ w' = w := by
  by_cases h0 : 0 ≤ n
  · by_cases h1 : n < 64
    · go_enter Tryz.func88, Tryz.ntmps88
      go_wp2
      go_ret
      exact ⟨ret_bool (by unfold nodeB; simp [h0, h1]), rfl⟩
    · go_enter Tryz.func88, Tryz.ntmps88
      go_wp2
      go_ret
      exact ⟨ret_bool (by unfold nodeB; simp [h1]), rfl⟩
  · go_enter Tryz.func88, Tryz.ntmps88
    go_wp2
    go_ret
    exact ⟨ret_bool (by unfold nodeB; rw [decide_eq_false (by omega)]), rfl⟩
def ofB (k o : Int) : Bool := if k = 1 ∨ k = 2 ∨ k = 4 then o == 0 else if k = 3 then nodeB o else false
set_option maxHeartbeats 1000000 in
theorem rightOf_any (p : Pk) (w : World) : Calls Tryz.prog 87 #[.agg (pkCells p)] w fun e w' => e = .returned (.bool (ofB p.kind p.of_)) ∧ Below w.heap.size w w' := by
  have HP := hid (pbox_new w p)
  have HW := hid (below_alloc w (.cells (pkCells p) 53))
  obtain ⟨c0, c1, c2, c3, c4⟩ := HP.out.cells
  have HI := hid (isNode_any p.of_)
  have HF : Hid (ofB p.kind p.of_ = if p.kind = 1 ∨ p.kind = 2 ∨ p.kind = 4 then p.of_ == 0 else if p.kind = 3 then nodeB p.of_ else false) := rfl
  generalize ofB p.kind p.of_ = R at HF ⊢
  generalize nodeB p.of_ = NB at HF HI
  generalize p.kind = K at *
  generalize p.of_ = O at *
  by_cases k1 : K = 1
  · subst k1
    go_enter Tryz.func87, Tryz.ntmps87
    go_wp2
    go_ret
    exact ⟨ret_bool (by rw [HF.out]; simp), HW.out⟩
  · by_cases k2 : K = 2
    · subst k2
      go_enter Tryz.func87, Tryz.ntmps87
      go_wp2
      go_ret
      exact ⟨ret_bool (by rw [HF.out]; simp), HW.out⟩
    · by_cases k4 : K = 4
      · subst k4
        go_enter Tryz.func87, Tryz.ntmps87
        go_wp2
        go_ret
        exact ⟨ret_bool (by rw [HF.out]; simp), HW.out⟩
      · by_cases k3 : K = 3
        · subst k3
          go_enter Tryz.func87, Tryz.ntmps87
          go_wp2_with fail
          refine (HI.out _).mono ?_; rintro e w' ⟨rfl, rfl⟩
          go_wp2
          go_ret
          exact ⟨ret_bool (by rw [HF.out]; simp), HW.out⟩
        · go_enter Tryz.func87, Tryz.ntmps87
          go_wp2
          go_ret
          exact ⟨ret_bool (by rw [HF.out]; simp [k1, k2, k3, k4]), HW.out⟩
theorem rightP_eq (p : Pk) : rightP p = (ofB p.kind p.of_ && (nodeB p.frm && decide ((p.epoch : Int) ≤ (p.cur : Int)))) := by
  unfold rightP ofB nodeB
  rw [Bool.eq_iff_iff]
  simp only [decide_eq_true_eq, Bool.and_eq_true]
  split
  · simp only [beq_iff_eq]; omega
  · split
    · simp only [decide_eq_true_eq]; omega
    · simp only [Bool.false_eq_true, false_and, iff_false]; omega
set_option maxHeartbeats 1000000 in
/-- Right -/
theorem right_any (p : Pk) (w : World) : Calls Tryz.prog 70 #[.agg (pkCells p)] w fun e w' => e = .returned (.bool (rightP p)) ∧ Below w.heap.size w w' := by
  have HP := hid (pbox_new w p)
  have HW := hid (below_alloc w (.cells (pkCells p) 53))
  have HI := hid (isNode_any p.frm)
  have HR := hid (rightOf_any p)
  have HF := hid (rightP_eq p)
  generalize rightP p = R at HF ⊢
  generalize nodeB p.frm = NB at HF HI
  generalize ofB p.kind p.of_ = OB at HF HR
  go_enter Tryz.func70, Tryz.ntmps70
  go_wp2_with (refine wpList_load_row rfl 53 _ rfl w.heap.size rfl 53 _ (0, 0) _ HP.out Tryz.underlying53 rfl (infoPk _) (Hid.out ?_))
  refine hid ?_
  go_wp2_with fail
  refine (HR.out _).mono ?_; rintro e w1 ⟨rfl, hb⟩
  have HP1 := hid (HP.out.below hb HP.out.lt)
  have HW1 := hid (HW.out.trans (hb.mono HW.out.size))
  obtain ⟨c0, c1, c2, c3, c4⟩ := HP1.out.cells
  clear hb
  cases OB with
  | false =>
    go_wp2
    go_ret
    exact ⟨ret_bool (by rw [HF.out]; simp), HW1.out⟩
  | true =>
    go_wp2_with fail
    refine (HI.out _).mono ?_; rintro e w2 ⟨rfl, rfl⟩
    cases NB with
    | false =>
      go_wp2
      go_ret
      exact ⟨ret_bool (by rw [HF.out]; simp), HW1.out⟩
    | true =>
      go_wp2
      go_ret
      exact ⟨ret_bool (by rw [HF.out]; simp), HW1.out⟩

end Go.Proofs.YtbfllifgmlkndaaGreatDoor
