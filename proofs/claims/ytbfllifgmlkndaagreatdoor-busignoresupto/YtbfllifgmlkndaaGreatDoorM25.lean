/- VwTake. -/
import Derived.Test.YtbfllifgmlkndaaGreatDoorM24
import Derived.Test.YtbfllifgmlkndaaGreatDoorM15
namespace Go.Proofs.YtbfllifgmlkndaaGreatDoor
open Go.RowKit
open Slot

set_option maxHeartbeats 4000000 in
set_option maxRecDepth 100000 in
theorem take_no_core (self g cap cur : Nat) (p : Pk) (R : Bool) (K F O : Int) (C : Nat) (w : World) (hk : p.kind = K) (hf : p.frm = F) (ho : p.of_ = O) (hc : p.cur = C) (hR : rightP p = R)
    (h : R = false ∨ 4611686018427387904 < C ∨ F = self ∨ (K = 3 ∧ O = self)) : Calls Tryz.prog 55 #[.agg (rvc self g cap cur), .agg (pkCells p)] w fun e w' => e = .returned (.tuple #[.agg (rvc self g cap cur), .slice none 0 0]) ∧ Below w.heap.size w w' := by
  have HS0 := hid (stay_new w g self cap cur p)
  have HW0 : Hid (Below w.heap.size w (((w.alloc (.cells (rvc self g cap cur) 34)).alloc (.cells (pkCells p) 53)).alloc (.cells #[.int .i64 0, .slice none 0 0, .int .u64 0] 34))) := ((below_alloc w _).alloc (by simp) _).alloc (by simp; omega) _
  have HRt2 : Hid (∀ W, Calls Tryz.prog 63 #[.agg (pkCells p)] W fun e w' => e = .returned (.bool R) ∧ Below W.heap.size W w') := fun W => by
    have := rright_any p W
    rwa [hR] at this
  have HH := hid h
  clear h hR
  generalize hPC : pkCells p = PC at *
  have iP : (Tryz.prog.info? 53).map (·.size) = some PC.size := by rw [← hPC]; exact infoPk p
  have HPk : Hid (∀ W b, PBox W b p → W.heap[b]? = some (.cells PC 53 (0, 0))) := fun W b h => by rw [← hPC]; exact h
  clear hPC
  generalize hRC : rvc self g cap cur = RC at *
  have iR : (Tryz.prog.info? 34).map (·.size) = some RC.size := by rw [← hRC]; exact infoRV rfl
  have oR : RC.all (·.oneCell') = true := by rw [← hRC]; exact rvc_one _ _ _ _
  have zR : (#[.int .i64 0, .slice none 0 0, .int .u64 0] : Array Value).size = RC.size := by rw [← hRC]; rfl
  have HRv : Hid (∀ W b, RVb W b self g cap cur → W.heap[b]? = some (.cells RC 34 (0, 0))) := fun W b h => by rw [← hRC]; exact h
  have HRr : Hid (∀ W b, W.heap[b]? = some (.cells RC 34 (0, 0)) → RVb W b self g cap cur) := fun W b h => by unfold RVb; rw [hRC]; exact h
  have HRC : Hid (rvc self g cap cur = RC) := hRC
  clear hRC
  go_enter Tryz.func55, Tryz.ntmps55
  go_upto_region 1 with fail
  generalize (((w.alloc (.cells RC 34)).alloc (.cells PC 53)).alloc (.cells #[.int .i64 0, .slice none 0 0, .int .u64 0] 34)) = w2 at *
  obtain ⟨p0, p1, p2, p3, p4⟩ := HS0.out.pk.cells
  obtain ⟨c0, c1, c2⟩ := rv_cells HS0.out.rv
  rw [hk] at p0
  have HP0 := hid (HPk.out _ _ HS0.out.pk)
  by_cases k3 : K = 3
  · subst k3
    go_wp2_with (refine wpList_load_row rfl 53 _ rfl (w.heap.size + 1) rfl 53 _ (0, 0) _ HP0.out Tryz.underlying53 rfl iP (Hid.out ?_))
    refine hid ?_
    go_wp2_with fail
    refine (HRt2.out _).mono ?_; rintro e w3 ⟨rfl, hb⟩
    have HV3 := hid (HRv.out _ _ (HS0.out.rv.below hb HS0.out.rv.lt))
    have HR3 : Hid (w3.heap[w.heap.size + 2]? = some (.cells #[.int .i64 0, .slice none 0 0, .int .u64 0] 34 (0, 0))) := (hb.block _ (Array.getElem?_eq_some_iff.1 HS0.out.res).1).trans HS0.out.res
    have HW3 := hid (HW0.out.trans (hb.mono HW0.out.size))
    obtain ⟨p0, p1, p2, p3, p4⟩ := (HS0.out.pk.below hb HS0.out.pk.lt).cells
    obtain ⟨c0, c1, c2⟩ := rv_cells (HS0.out.rv.below hb HS0.out.rv.lt)
    rw [hk] at p0
    rw [hf] at p1
    rw [ho] at p2
    rw [hc] at p4
    clear hb
    cases R with
    | false =>
      go_wp2_with (first | (refine wpList_load_row rfl 34 _ rfl w.heap.size rfl 34 _ (0, 0) _ HV3.out Tryz.underlying34 rfl iR ?_) | (refine wpList_store_row rfl 34 _ _ rfl (w.heap.size + 2) RC rfl rfl 34 _ HR3.out iR zR oR ?_))
      refine bodyPost_ret (v := .tuple #[.agg (rvc self g cap cur), .slice none 0 0]) ?_ rfl ?_
      · exact ret_rv2 rfl rfl rfl (HRr.out _ _ (setRow_heap _ _ _ _ _ _ HR3.out))
      · exact ⟨congrArg (fun c => Ending.returned (.tuple #[.agg c, .slice none 0 0])) HRC.out, below_setRow HW3.out (by omega) _⟩
    | true =>
      by_cases hC : (4611686018427387904 : Int) < (C : Int)
      · go_wp2_with (first | (refine wpList_load_row rfl 34 _ rfl w.heap.size rfl 34 _ (0, 0) _ HV3.out Tryz.underlying34 rfl iR ?_) | (refine wpList_store_row rfl 34 _ _ rfl (w.heap.size + 2) RC rfl rfl 34 _ HR3.out iR zR oR ?_))
        refine bodyPost_ret (v := .tuple #[.agg (rvc self g cap cur), .slice none 0 0]) ?_ rfl ?_
        · exact ret_rv2 rfl rfl rfl (HRr.out _ _ (setRow_heap _ _ _ _ _ _ HR3.out))
        · exact ⟨congrArg (fun c => Ending.returned (.tuple #[.agg c, .slice none 0 0])) HRC.out, below_setRow HW3.out (by omega) _⟩
      · by_cases hF : F = (self : Int)
        · subst hF
          go_wp2_with (first | (refine wpList_load_row rfl 34 _ rfl w.heap.size rfl 34 _ (0, 0) _ HV3.out Tryz.underlying34 rfl iR ?_) | (refine wpList_store_row rfl 34 _ _ rfl (w.heap.size + 2) RC rfl rfl 34 _ HR3.out iR zR oR ?_))
          refine bodyPost_ret (v := .tuple #[.agg (rvc self g cap cur), .slice none 0 0]) ?_ rfl ?_
          · exact ret_rv2 rfl rfl rfl (HRr.out _ _ (setRow_heap _ _ _ _ _ _ HR3.out))
          · exact ⟨congrArg (fun c => Ending.returned (.tuple #[.agg c, .slice none 0 0])) HRC.out, below_setRow HW3.out (by omega) _⟩
        · have hF2 : (F == (self : Int)) = false := beq_eq_false_iff_ne.2 hF
          obtain rfl : O = (self : Int) := by
            rcases HH.out with h | h | h | h
            · cases h
            · omega
            · exact absurd h hF
            · exact h.2
          go_wp2_with (first | (refine wpList_load_row rfl 34 _ rfl w.heap.size rfl 34 _ (0, 0) _ HV3.out Tryz.underlying34 rfl iR ?_) | (refine wpList_store_row rfl 34 _ _ rfl (w.heap.size + 2) RC rfl rfl 34 _ HR3.out iR zR oR ?_))
          refine bodyPost_ret (v := .tuple #[.agg (rvc self g cap cur), .slice none 0 0]) ?_ rfl ?_
          · exact ret_rv2 rfl rfl rfl (HRr.out _ _ (setRow_heap _ _ _ _ _ _ HR3.out))
          · exact ⟨congrArg (fun c => Ending.returned (.tuple #[.agg c, .slice none 0 0])) HRC.out, below_setRow HW3.out (by omega) _⟩
  · have k3' : (K == 3) = false := beq_eq_false_iff_ne.2 k3
    go_wp2_with (refine wpList_load_row rfl 53 _ rfl (w.heap.size + 1) rfl 53 _ (0, 0) _ HP0.out Tryz.underlying53 rfl iP (Hid.out ?_))
    refine hid ?_
    go_wp2_with fail
    refine (HRt2.out _).mono ?_; rintro e w3 ⟨rfl, hb⟩
    have HV3 := hid (HRv.out _ _ (HS0.out.rv.below hb HS0.out.rv.lt))
    have HR3 : Hid (w3.heap[w.heap.size + 2]? = some (.cells #[.int .i64 0, .slice none 0 0, .int .u64 0] 34 (0, 0))) := (hb.block _ (Array.getElem?_eq_some_iff.1 HS0.out.res).1).trans HS0.out.res
    have HW3 := hid (HW0.out.trans (hb.mono HW0.out.size))
    obtain ⟨p0, p1, p2, p3, p4⟩ := (HS0.out.pk.below hb HS0.out.pk.lt).cells
    obtain ⟨c0, c1, c2⟩ := rv_cells (HS0.out.rv.below hb HS0.out.rv.lt)
    rw [hk] at p0
    rw [hf] at p1
    rw [ho] at p2
    rw [hc] at p4
    clear hb
    cases R with
    | false =>
      go_wp2_with (first | (refine wpList_load_row rfl 34 _ rfl w.heap.size rfl 34 _ (0, 0) _ HV3.out Tryz.underlying34 rfl iR ?_) | (refine wpList_store_row rfl 34 _ _ rfl (w.heap.size + 2) RC rfl rfl 34 _ HR3.out iR zR oR ?_))
      refine bodyPost_ret (v := .tuple #[.agg (rvc self g cap cur), .slice none 0 0]) ?_ rfl ?_
      · exact ret_rv2 rfl rfl rfl (HRr.out _ _ (setRow_heap _ _ _ _ _ _ HR3.out))
      · exact ⟨congrArg (fun c => Ending.returned (.tuple #[.agg c, .slice none 0 0])) HRC.out, below_setRow HW3.out (by omega) _⟩
    | true =>
      by_cases hC : (4611686018427387904 : Int) < (C : Int)
      · go_wp2_with (first | (refine wpList_load_row rfl 34 _ rfl w.heap.size rfl 34 _ (0, 0) _ HV3.out Tryz.underlying34 rfl iR ?_) | (refine wpList_store_row rfl 34 _ _ rfl (w.heap.size + 2) RC rfl rfl 34 _ HR3.out iR zR oR ?_))
        refine bodyPost_ret (v := .tuple #[.agg (rvc self g cap cur), .slice none 0 0]) ?_ rfl ?_
        · exact ret_rv2 rfl rfl rfl (HRr.out _ _ (setRow_heap _ _ _ _ _ _ HR3.out))
        · exact ⟨congrArg (fun c => Ending.returned (.tuple #[.agg c, .slice none 0 0])) HRC.out, below_setRow HW3.out (by omega) _⟩
      · by_cases hF : F = (self : Int)
        · subst hF
          go_wp2_with (first | (refine wpList_load_row rfl 34 _ rfl w.heap.size rfl 34 _ (0, 0) _ HV3.out Tryz.underlying34 rfl iR ?_) | (refine wpList_store_row rfl 34 _ _ rfl (w.heap.size + 2) RC rfl rfl 34 _ HR3.out iR zR oR ?_))
          refine bodyPost_ret (v := .tuple #[.agg (rvc self g cap cur), .slice none 0 0]) ?_ rfl ?_
          · exact ret_rv2 rfl rfl rfl (HRr.out _ _ (setRow_heap _ _ _ _ _ _ HR3.out))
          · exact ⟨congrArg (fun c => Ending.returned (.tuple #[.agg c, .slice none 0 0])) HRC.out, below_setRow HW3.out (by omega) _⟩
        · have hF2 : (F == (self : Int)) = false := beq_eq_false_iff_ne.2 hF
          exfalso
          rcases HH.out with h | h | h | h
          · cases h
          · omega
          · exact hF h
          · exact k3 h.1
theorem take_no (self g cap cur : Nat) (v : Vw) (p : Pk) (w : World) (hs : v.self = self) (h : seen v p = false) : Calls Tryz.prog 55 #[.agg (rvc self g cap cur), .agg (pkCells p)] w fun e w' => e = .returned (.tuple #[.agg (rvc self g cap cur), .slice none 0 0]) ∧ Below w.heap.size w w' := by
  refine take_no_core self g cap cur p (rightP p) p.kind p.frm p.of_ p.cur w rfl rfl rfl rfl rfl ?_
  unfold seen at h
  rw [hs] at h
  cases hr : rightP p
  · exact .inl rfl
  · rw [hr] at h
    by_cases h1 : p.cur ≤ big
    · by_cases h2 : p.frm = self
      · exact .inr (.inr (.inl h2))
      · rw [decide_eq_true h1, decide_eq_true h2] at h
        simp only [Bool.true_and, Bool.not_eq_false', Bool.and_eq_true, decide_eq_true_eq] at h
        exact .inr (.inr (.inr h))
    · unfold big at h1
      exact .inr (.inl (by omega))

end Go.Proofs.YtbfllifgmlkndaaGreatDoor
