/- A number: read at a line that begins with the byte 58. -/
import Derived.Test.YtngkbacnajgmcaaDoorLined
namespace Go.Proofs.YtngkbacnajgmcaaDoor
open Go.RowKit

set_option maxHeartbeats 2000000 in
set_option maxRecDepth 100000 in
theorem read_58 {w : World} {k : Nat} {s text rest : List UInt8} {L : ByteArray} (H : Lined w k s text rest L 58) : Told w k s (rdKind (subOf k) 58 text rest) := by
  have hs1 := H.tail
  have hs2 := H.head
  have HC := H.cut
  have htl := H.text
  have hrl := H.rest
  have hk := H.room
  have hE := H.env
  have HZ := hid fun (o : Obj) => heap_alloc_new w o
  have HE := hid fun (W : World) (hb : Below w.heap.size w W) => hE.below hb hE.room
  clear hE H
  rw [kind58]
  unfold Told
  have HN := hid fun (W : World) (hb : Below w.heap.size w W) => readNumber_any text (-9223372036854775808) 9223372036854775807 W (HE.out W hb) (by omega) (by decide) (by decide)
  cases hn : num text (-9223372036854775808) 9223372036854775807 with
  | some n =>
    have hrng := hid (num_rng hn)
    simp only [hn, numVal] at HN
    clear hn
    go_enter Tryd.func20, Tryd.ntmps20
    go_wp2_with fail
    refine (HC.out _).mono ?_; rintro e w1 ⟨rfl, hb⟩
    have HB := hid ((below_alloc w _).trans (hb.out.mono (by simp)))
    have HRw := hid ((hb.out.block _ (by simp)).trans (HZ.out _))
    have hwlt : w.heap.size < w1.heap.size := (Array.getElem?_eq_some_iff.1 HRw.out).1
    clear hb HC
    obtain ⟨⟨c0, c1, c2, c3⟩, f0, f1, f2, f3⟩ := row_facts HRw.out
    go_wp2_with fail
    refine (HN.out _ (HB.out.setCell (Nat.le_refl _) _)).mono ?_; rintro e w3 ⟨rfl, hb3⟩
    have HB3 := hid ((HB.out.setCell (p := ⟨w.heap.size, 0, none⟩) (Nat.le_refl _) (.int .i64 3)).trans (hb3.out.mono (HB.out.setCell (p := ⟨w.heap.size, 0, none⟩) (Nat.le_refl _) (.int .i64 3)).size))
    have HR3 : Hid (w3.heap[w.heap.size]? = some (.cells #[.int .i64 3, .int .i64 0, .string ⟨#[]⟩, .slice none 0 0] 24 (0, 0))) := (hb3.out.block w.heap.size (by simpa using hwlt)).trans (heap_setCell_same w1 w.heap.size 0 _ _ _ HRw.out)
    have HR4 : Hid ((w3.setCell ⟨w.heap.size, 1, none⟩ (.int .i64 n)).heap[w.heap.size]? = some (.cells #[.int .i64 3, .int .i64 n, .string ⟨#[]⟩, .slice none 0 0] 24 (0, 0))) := heap_setCell_same w3 w.heap.size 1 _ _ _ HR3.out
    clear hb3 HN c0 c1 c2 c3 f0 f1 f2 f3
    obtain ⟨⟨c0, c1, c2, c3⟩, f0, f1, f2, f3⟩ := row_facts HR3.out
    go_wp2_with (first | (refine wpList_load_row rfl 24 _ rfl w.heap.size rfl 24 _ (0, 0) _ HR4.out Tryd.underlying24 rfl (infoRep _ _ _ _) ?_) | (refine wpList_store_row rfl 24 _ _ rfl w.heap.size #[.int .i64 3, .int .i64 n, .string ⟨#[]⟩, .slice none 0 0] rfl rfl 24 _ HR4.out (infoRep _ _ _ _) rfl (oneR _ _ _ _ _ _) ?_))
    refine bodyPost_ret (v := .tuple #[.agg #[.int .i64 3, .int .i64 n, .string ⟨#[]⟩, .slice none 0 0], .string ⟨rest.toArray⟩, .int .i64 0]) ?_ rfl ?_
    · exact ret_rep3 rfl rfl rfl rfl (setRow_heap _ w.heap.size _ #[.int .i64 3, .int .i64 n, .string ⟨#[]⟩, .slice none 0 0] _ _ HR4.out)
    · refine ⟨_, _, _, _, _, _, _, _, rfl, ?_, below_setRow (HB3.out.setCell (Nat.le_refl _) _) (Nat.le_refl _) _⟩
      exact ⟨rfl, rfl, flat_rp (t := []) (by decide) (by decide) hrng.out.1 hrng.out.2 (by simp)⟩
  | none =>
    simp only [hn, numVal] at HN
    clear hn
    go_enter Tryd.func20, Tryd.ntmps20
    go_wp2_with fail
    refine (HC.out _).mono ?_; rintro e w1 ⟨rfl, hb⟩
    have HB := hid ((below_alloc w _).trans (hb.out.mono (by simp)))
    have HRw := hid ((hb.out.block _ (by simp)).trans (HZ.out _))
    have hwlt : w.heap.size < w1.heap.size := (Array.getElem?_eq_some_iff.1 HRw.out).1
    clear hb HC
    obtain ⟨⟨c0, c1, c2, c3⟩, f0, f1, f2, f3⟩ := row_facts HRw.out
    go_wp2_with fail
    refine (HN.out _ (HB.out.setCell (Nat.le_refl _) _)).mono ?_; rintro e w3 ⟨rfl, hb3⟩
    have HB3 := hid ((HB.out.setCell (p := ⟨w.heap.size, 0, none⟩) (Nat.le_refl _) (.int .i64 3)).trans (hb3.out.mono (HB.out.setCell (p := ⟨w.heap.size, 0, none⟩) (Nat.le_refl _) (.int .i64 3)).size))
    have HR3 : Hid (w3.heap[w.heap.size]? = some (.cells #[.int .i64 3, .int .i64 0, .string ⟨#[]⟩, .slice none 0 0] 24 (0, 0))) := (hb3.out.block w.heap.size (by simpa using hwlt)).trans (heap_setCell_same w1 w.heap.size 0 _ _ _ HRw.out)
    have HR4 : Hid ((w3.setCell ⟨w.heap.size, 1, none⟩ (.int .i64 0)).heap[w.heap.size]? = some (.cells #[.int .i64 3, .int .i64 0, .string ⟨#[]⟩, .slice none 0 0] 24 (0, 0))) := heap_setCell_same w3 w.heap.size 1 _ _ _ HR3.out
    clear hb3 HN c0 c1 c2 c3 f0 f1 f2 f3
    obtain ⟨⟨c0, c1, c2, c3⟩, f0, f1, f2, f3⟩ := row_facts HR3.out
    go_wp2_with (first | (refine wpList_load_row rfl 24 _ rfl w.heap.size rfl 24 _ (0, 0) _ HR4.out Tryd.underlying24 rfl (infoRep _ _ _ _) ?_) | (refine wpList_store_row rfl 24 _ _ rfl w.heap.size #[.int .i64 3, .int .i64 0, .string ⟨#[]⟩, .slice none 0 0] rfl rfl 24 _ HR4.out (infoRep _ _ _ _) rfl (oneR _ _ _ _ _ _) ?_))
    refine bodyPost_ret (v := .tuple #[.agg #[.int .i64 3, .int .i64 0, .string ⟨#[]⟩, .slice none 0 0], .string ⟨rest.toArray⟩, .int .i64 41]) ?_ rfl ?_
    · exact ret_rep3 rfl rfl rfl rfl (setRow_heap _ w.heap.size _ #[.int .i64 3, .int .i64 0, .string ⟨#[]⟩, .slice none 0 0] _ _ HR4.out)
    · refine ⟨_, _, _, _, _, _, _, _, rfl, ?_, below_setRow (HB3.out.setCell (Nat.le_refl _) _) (Nat.le_refl _) _⟩
      exact rfl

end Go.Proofs.YtngkbacnajgmcaaDoor
