/- A list: read at a line that begins with the byte 42. -/
import Derived.Test.YtngkbacnajgmcaaDoorLined
namespace Go.Proofs.YtngkbacnajgmcaaDoor
open Go.RowKit

set_option maxHeartbeats 2000000 in
set_option maxRecDepth 100000 in
theorem read_42 {w : World} {j : Nat} {s text rest : List UInt8} {L : ByteArray} (ih : ReadAt j) (H : Lined w (j + 1) s text rest L 42) : Told w (j + 1) s (rdKind (subOf (j + 1)) 42 text rest) := by
  have hs1 := H.tail
  have hs2 := H.head
  have HC := H.cut
  have htl := H.text
  have hrl := H.rest
  have hk := H.room
  have hE := H.env
  have HZ := hid fun (o : Obj) => heap_alloc_new w o
  have HE := hid fun (W : World) (hb : Below w.heap.size w W) => hE.below hb hE.room
  clear hE H
  obtain ⟨R, hR⟩ : ∃ R, R = rdKind (subOf (j + 1)) 42 text rest := ⟨_, rfl⟩
  rw [← hR]
  rw [kind42] at hR
  have HR := hid hR
  clear hR
  unfold Told
  have HN := hid fun (W : World) (hb : Below w.heap.size w W) => readList_of ih (j : Int) text rest W rfl (by omega) (HE.out W hb) (by omega) hrl
  clear ih
  go_enter Tryd.func20, Tryd.ntmps20
  go_wp2_with fail
  refine (HC.out _).mono ?_; rintro e w1 ⟨rfl, hb⟩
  have HB := hid ((below_alloc w _).trans (hb.out.mono (by simp)))
  have HRw := hid ((hb.out.block _ (by simp)).trans (HZ.out _))
  have hwlt : w.heap.size < w1.heap.size := (Array.getElem?_eq_some_iff.1 HRw.out).1
  clear hb HC
  obtain ⟨⟨c0, c1, c2, c3⟩, f0, f1, f2, f3⟩ := row_facts HRw.out
  go_wp2_with fail
  refine (HN.out _ (HB.out.setCell (Nat.le_refl _) _)).mono ?_; rintro e w3 ⟨p, n, c, rest3, x, rfl, hb3⟩
  have HL3 := hid hb3.out.1
  have HB3 := hid ((HB.out.setCell (p := ⟨w.heap.size, 0, none⟩) (Nat.le_refl _) (.int .i64 6)).trans (hb3.out.2.mono (HB.out.setCell (p := ⟨w.heap.size, 0, none⟩) (Nat.le_refl _) (.int .i64 6)).size))
  have HR3 : Hid (w3.heap[w.heap.size]? = some (.cells #[.int .i64 6, .int .i64 0, .string ⟨#[]⟩, .slice none 0 0] 24 (0, 0))) := (hb3.out.2.block w.heap.size (by simpa using hwlt)).trans (heap_setCell_same w1 w.heap.size 0 _ _ _ HRw.out)
  have HR4 : Hid ((w3.setCell ⟨w.heap.size, 3, none⟩ (.slice p n c)).heap[w.heap.size]? = some (.cells #[.int .i64 6, .int .i64 0, .string ⟨#[]⟩, .slice p n c] 24 (0, 0))) := heap_setCell_same w3 w.heap.size 3 _ _ _ HR3.out
  clear hb3 HN c0 c1 c2 c3 f0 f1 f2 f3
  obtain ⟨⟨c0, c1, c2, c3⟩, f0, f1, f2, f3⟩ := row_facts HR3.out
  go_wp2_with (first | (refine wpList_load_row rfl 24 _ rfl w.heap.size rfl 24 _ (0, 0) _ HR4.out Tryd.underlying24 rfl (infoRep _ _ _ _) ?_) | (refine wpList_store_row rfl 24 _ _ rfl w.heap.size #[.int .i64 6, .int .i64 0, .string ⟨#[]⟩, .slice p n c] rfl rfl 24 _ HR4.out (infoRep _ _ _ _) rfl (oneR _ _ _ _ _ _) ?_))
  refine bodyPost_ret (v := .tuple #[.agg #[.int .i64 6, .int .i64 0, .string ⟨#[]⟩, .slice p n c], .string rest3, .int .i64 x]) ?_ rfl ?_
  · exact ret_rep3 rfl rfl rfl rfl (setRow_heap _ w.heap.size _ #[.int .i64 6, .int .i64 0, .string ⟨#[]⟩, .slice p n c] _ _ HR4.out)
  · refine ⟨_, _, _, _, _, _, _, _, rfl, ?_, below_setRow (HB3.out.setCell (Nat.le_refl _) _) (Nat.le_refl _) _⟩
    have hlo := HL3.out
    rw [HR.out]
    cases hl : rdList (subOf (j + 1)) text rest with
    | bad y =>
      rw [show subOf (j + 1) = rdAll (rd j) from rfl] at hl
      rw [hl] at hlo
      exact hlo
    | got l rest' =>
      rw [show subOf (j + 1) = rdAll (rd j) from rfl] at hl
      rw [hl] at hlo
      obtain ⟨h1, h2, h3, h4⟩ := hlo
      refine ⟨h1, h2, p, c, by rw [h3]; rfl, ⟨by simp [Rep.kind], by simp [Rep.kind], by simp [Rep.int], by simp [Rep.int], by simp [Rep.text], ?_⟩, ?_⟩
      · have hll : l.length ≤ 1024 := by
          unfold rdList at hl
          split at hl
          · cases hl
          · rename_i v hv
            have h5 := num_rng hv
            have h6 := (rdAll_rest (fun _ _ _ h => rd_rest h) hl).2
            omega
        show l.length ≤ _
        omega
      · refine h4.turn (fun b hb hlt => ?_) (Nat.le_refl _)
        have hb' : w1.heap.size ≤ b := by simpa using hb
        refine ⟨by omega, ?_⟩
        rw [setRow_other _ _ _ _ (by omega), heap_setCell_other _ _ _ _ (by simp; omega)]

end Go.Proofs.YtngkbacnajgmcaaDoor
