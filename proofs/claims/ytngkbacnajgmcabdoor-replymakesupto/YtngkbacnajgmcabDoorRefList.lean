/- Replies made by the document, and the other makers: ref Text, ref List, Number, Wrong. -/
import Derived.Test.YtngkbacnajgmcabDoorListP
namespace Go.Proofs.YtngkbacnajgmcabDoor
open Go.RowKit

set_option maxHeartbeats 1000000 in
set_option maxRecDepth 100000 in
theorem rtext_any (t : List UInt8) (w : World) :
    Calls Tryd.prog 8 #[.string ⟨t.toArray⟩] w fun e w' => e = .returned (.agg #[.int .i64 4, .int .i64 0, .string ⟨t.toArray⟩, .slice none 0 0]) ∧ Below w.heap.size w w' := by
  go_enter Tryd.func8, Tryd.ntmps8
  go_wp2
  refine bodyPost_ret (v := .agg #[.int .i64 4, .int .i64 0, .string ⟨t.toArray⟩, .slice none 0 0]) ?_ rfl ?_
  · exact ret_rep1 rfl rfl (heap_alloc_new w _)
  · exact ⟨rfl, below_alloc w _⟩
set_option maxHeartbeats 1000000 in
set_option maxRecDepth 100000 in
theorem number_any (n : Int) (w : World) :
    Calls Tryd.prog 9 #[.int .i64 n] w fun e w' => e = .returned (.agg #[.int .i64 3, .int .i64 n, .string ⟨#[]⟩, .slice none 0 0]) ∧ Below w.heap.size w w' := by
  go_enter Tryd.func9, Tryd.ntmps9
  go_wp2
  refine bodyPost_ret (v := .agg #[.int .i64 3, .int .i64 n, .string ⟨#[]⟩, .slice none 0 0]) ?_ rfl ?_
  · exact ret_rep1 rfl rfl (heap_alloc_new w _)
  · exact ⟨rfl, below_alloc w _⟩
set_option maxHeartbeats 1000000 in
set_option maxRecDepth 100000 in
theorem wrong_any (t : List UInt8) (w : World) :
    Calls Tryd.prog 10 #[.string ⟨t.toArray⟩] w fun e w' => e = .returned (.agg #[.int .i64 2, .int .i64 0, .string ⟨t.toArray⟩, .slice none 0 0]) ∧ Below w.heap.size w w' := by
  go_enter Tryd.func10, Tryd.ntmps10
  go_wp2
  refine bodyPost_ret (v := .agg #[.int .i64 2, .int .i64 0, .string ⟨t.toArray⟩, .slice none 0 0]) ?_ rfl ?_
  · exact ret_rep1 rfl rfl (heap_alloc_new w _)
  · exact ⟨rfl, below_alloc w _⟩
set_option maxHeartbeats 2000000 in
set_option maxRecDepth 100000 in
/-- ref List -/
theorem rlist_any (p : Option Addr) (l : List (List UInt8)) (cap : Nat) (w : World) (hA : Strs w p l) (hl : l.length ≤ 1000000000000) (ht : ∀ t ∈ l, t.length ≤ 9223372036854775807) :
    Calls Tryd.prog 12 #[.slice p l.length cap] w fun e w' => ∃ (q : Option Addr) (c : Nat), e = .returned (.agg #[.int .i64 6, .int .i64 0, .string ⟨#[]⟩, .slice q l.length c]) ∧
      Hid (Rp (fun b => w.heap.size ≤ b) w' 2 (.agg #[.int .i64 6, .int .i64 0, .string ⟨#[]⟩, .slice q l.length c]) (listR l) ∧ Below w.heap.size w w') := by
  have HA := hid hA
  have HT := hid ht
  have HT2 := hid fun (t : List UInt8) (w : World) => rtext_any t w
  have HZ0 := hid fun (o o' : Obj) => heap_alloc2_old w o o'
  have HZ1 := hid fun (o o' : Obj) => heap_alloc2_new w o o'
  clear hA ht
  go_enter Tryd.func12, Tryd.ntmps12
  go_wp2_with fail
  go_loopw [4] (fun v9 W => ∃ (i : Nat) (v : Value), v9 = .int .i64 i ∧ i ≤ l.length ∧ Hid (W.heap[w.heap.size]? = some (.cells #[.int .i64 0, .int .i64 0, .string ⟨#[]⟩, .slice none 0 0] 27 (0, 0))) ∧ Hid (W.heap[w.heap.size + 1]? = some (.cells #[.int .i64 6, .int .i64 0, .string ⟨#[]⟩, v] 27 (0, 0))) ∧ Hid (Rws (w.heap.size + 2) W 1 v ((l.take i).map bulkR)) ∧ Hid (Below w.heap.size w W)) (fun v9 _ => l.length - (intOf v9).toNat)
  case atStart => exact ⟨0, .slice none 0 0, rfl, Nat.zero_le _, HZ0.out _ _, HZ1.out _ _, by simpa [Hid] using Rws.nil _ _ _, below2 w _ _⟩
  case round =>
    obtain ⟨i, v, rfl, hi, HR0, HR1, HW, HB⟩ := hrel
    by_cases hlt : i < l.length
    · have hlz : (i : Int) < (l.length : Int) := by omega
      obtain ⟨b, o, rfl, hc⟩ := HA.out (fun e => by rw [e] at hlt; simp at hlt)
      have hci : wr.cell? ⟨b, o + i, none⟩ = some (.string ⟨l[i].toArray⟩) := by rw [HB.out.cell (block_lt_of_cell (hc i hlt))]; exact hc i hlt
      have HNx := hid (take_bulk hlt)
      have HTi := hid (HT.out l[i] (List.getElem_mem hlt))
      have Hlen : Hid (((l.take i).map bulkR).length ≤ 1000000000000) := by unfold Hid; simp; omega
      generalize l[i] = t at *
      clear hc
      obtain ⟨⟨c0, c1, c2, c3⟩, f0, f1, f2, f3⟩ := row_facts HR1.out
      have hwlt : w.heap.size + 1 < wr.heap.size := (Array.getElem?_eq_some_iff.1 HR1.out).1
      obtain ⟨pv, cv, hv⟩ := HW.out.shape
      obtain ⟨nv, hnv⟩ : ∃ nv, nv = ((l.take i).map bulkR).length := ⟨_, rfl⟩
      rw [← hnv] at hv
      subst hv
      clear hnv
      have HWd := hid (HW.out.below (Below.refl _ wr).drew)
      go_wp2_with fail
      go_region_law (first
        | (refine step_append_run rfl _ _ 25 rfl _ _ _ _ rfl rfl HRun.out ?_)
        | (go_simp; go_at_call 8; refine (HT2.out _ _).mono ?_; rintro e w3 ⟨rfl, hb3⟩; obtain ⟨v', W4, hrun, hw4, hb4⟩ := (HWd.out.below hb3).push (r := bulkR t) (q := none) (c := 0) (by have := hb3.size; simp at this; omega) Hlen.out (bulk_rp HTi.out); obtain ⟨p4, c4, rfl⟩ := hw4.shape; have hw3 : w.heap.size + 1 < w3.heap.size := Nat.lt_of_lt_of_le hwlt hb3.size; have HRun := hid hrun; have HW4 := hid hw4; have HB3 := hid hb3; have HB4 := hid hb4; have hr3 := (hb3.block (w.heap.size + 1) (by simpa using hwlt)).trans HR1.out; have hr4 := (hb4.block (w.heap.size + 1) (by omega)).trans hr3; have HR4 := hid hr4; obtain ⟨⟨c0, c1, c2, c3⟩, f0, f1, f2, f3⟩ := row_facts hr3; obtain ⟨⟨d0, d1, d2, d3⟩, g0, g1, g2, g3⟩ := row_facts hr4; clear hrun hw4 hb3 hb4 hr3 hr4))
      all_goals go_wp2_with fail
      all_goals
        refine ⟨⟨i + 1, .slice p4 ((l.take i).map bulkR ++ [bulkR t]).length c4, by go_num, by omega, ?_, ?_, ?_, ?_⟩, by simp [intOf]; omega⟩
        · show (W4.setCell _ _).heap[w.heap.size]? = _
          rw [heap_setCell_other _ _ _ _ (by simp)]
          exact (HB4.out.block w.heap.size (by omega)).trans ((HB3.out.block w.heap.size (by simp; omega)).trans HR0.out)
        · have hln : ((l.take i).map bulkR ++ [bulkR t]).length = i + 1 := by simp; omega
          rw [hln]
          exact heap_setCell_same W4 (w.heap.size + 1) 3 _ _ _ HR4.out
        · rw [HNx.out]
          exact HW4.out.keep (fun b hb _ => heap_setCell_other _ _ _ _ (by simp; omega))
        · exact (((HB.out.drew.trans (HB3.out.mono HB.out.size)).trans (HB4.out.mono (by omega))).setCell (by simp) _)
    · obtain ⟨pv, cv, rfl⟩ := HW.out.shape
      have et : l.take i = l := List.take_of_length_le (by omega)
      rw [et] at HW HR1
      rw [List.length_map] at HW HR1
      go_wp2_with (first | (refine wpList_load_row rfl 27 _ rfl (w.heap.size + 1) rfl 27 _ (0, 0) _ HR1.out Tryd.underlying27 rfl (infoRep _ _ _ _) ?_) | (refine wpList_store_row rfl 27 _ _ rfl w.heap.size #[.int .i64 6, .int .i64 0, .string ⟨#[]⟩, .slice pv l.length cv] rfl rfl 27 _ HR0.out (infoRep _ _ _ _) rfl (oneR _ _ _ _ _ _) ?_))
      refine bodyPost_ret (v := .agg #[.int .i64 6, .int .i64 0, .string ⟨#[]⟩, .slice pv l.length cv]) ?_ rfl ?_
      · exact ret_rep1 rfl rfl (setRow_heap wr _ _ _ _ _ HR0.out)
      · refine ⟨pv, cv, rfl, ⟨pv, cv, by simp [listR, Rep.kind, Rep.int, Rep.text, Rep.list], ⟨by simp [listR, Rep.kind], by simp [listR, Rep.kind], by simp [listR, Rep.int], by simp [listR, Rep.int], by simp [listR, Rep.text], by simp [listR, Rep.list]; omega⟩, ?_⟩, below_setRow HB.out (Nat.le_refl _) _⟩
        refine HW.out.row.2.turn (fun b hb _ => ⟨by omega, setRow_other _ _ _ _ (by omega)⟩) (Nat.le_refl _)

end Go.Proofs.YtngkbacnajgmcabDoor
