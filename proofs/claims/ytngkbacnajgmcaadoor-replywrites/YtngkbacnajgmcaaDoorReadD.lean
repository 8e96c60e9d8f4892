/- A Bulk or a Nil: read at a line that begins with the byte 36. -/
import Derived.Test.YtngkbacnajgmcaaDoorLined
namespace Go.Proofs.YtngkbacnajgmcaaDoor
open Go.RowKit

set_option maxHeartbeats 2000000 in
set_option maxRecDepth 100000 in
theorem read_36 {w : World} {k : Nat} {s text rest : List UInt8} {L : ByteArray} (H : Lined w k s text rest L 36) : Told w k s (rdKind (subOf k) 36 text rest) := by
  have hs1 := H.tail
  have hs2 := H.head
  have HC := H.cut
  have htl := H.text
  have hrl := H.rest
  have hk := H.room
  have hE := H.env
  have HZ := hid fun (o : Obj) => heap_alloc_new w o
  have HE := hid fun (W : World) (hb : Below w.heap.size w W) => hE.below hb hE.room
  clear hE H
  rw [kind36]
  unfold Told
  have HN := hid fun (W : World) (hb : Below w.heap.size w W) => readBulk_any text rest W (HE.out W hb) (by omega) hrl
  cases hn : rdBulk text rest with
  | got r rest' =>
    obtain ⟨kd, t, rfl, hkd, hx⟩ := rdBulk_flat hn
    simp only [hn, bulkVal, flatV, Rep.kind, Rep.int, Rep.text] at HN
    have HK := hid hkd
    clear hn hkd
    go_enter Tryd.func20, Tryd.ntmps20
    go_wp2_with fail
    refine (HC.out _).mono ?_; rintro e w1 ⟨rfl, hb⟩
    have HB := hid ((below_alloc w _).trans (hb.out.mono (by simp)))
    have HRw := hid ((hb.out.block _ (by simp)).trans (HZ.out _))
    have hwlt : w.heap.size < w1.heap.size := (Array.getElem?_eq_some_iff.1 HRw.out).1
    clear hb HC
    go_wp2_with fail
    refine (HN.out _ HB.out).mono ?_; rintro e w3 ⟨rfl, hb3⟩
    have HB3 := hid (HB.out.trans (hb3.out.mono HB.out.size))
    have HR3 := hid ((hb3.out.block w.heap.size hwlt).trans HRw.out)
    have HR4 := hid (setRow_heap w3 _ _ #[.int .i64 kd, .int .i64 0, .string ⟨t.toArray⟩, .slice none 0 0] _ _ HR3.out)
    clear hb3 HN
    go_wp2_with (first | (refine wpList_store_row rfl 24 _ _ rfl w.heap.size #[.int .i64 kd, .int .i64 0, .string ⟨t.toArray⟩, .slice none 0 0] rfl rfl 24 _ HR3.out (infoRep _ _ _ _) rfl (oneR _ _ _ _ _ _) ?_) | (refine wpList_load_row rfl 24 _ rfl w.heap.size rfl 24 _ (0, 0) _ HR4.out Tryd.underlying24 rfl (infoRep _ _ _ _) ?_) | (refine wpList_store_row rfl 24 _ _ rfl w.heap.size #[.int .i64 kd, .int .i64 0, .string ⟨t.toArray⟩, .slice none 0 0] rfl rfl 24 _ HR4.out (infoRep _ _ _ _) rfl (oneR _ _ _ _ _ _) ?_))
    refine bodyPost_ret (v := .tuple #[.agg #[.int .i64 kd, .int .i64 0, .string ⟨t.toArray⟩, .slice none 0 0], .string ⟨rest'.toArray⟩, .int .i64 0]) ?_ rfl ?_
    · exact ret_rep3 rfl rfl rfl rfl (setRow_heap (w3.setRow w.heap.size #[.int .i64 kd, .int .i64 0, .string ⟨t.toArray⟩, .slice none 0 0]) w.heap.size _ #[.int .i64 kd, .int .i64 0, .string ⟨t.toArray⟩, .slice none 0 0] _ _ HR4.out)
    · refine ⟨_, _, _, _, _, _, _, _, rfl, ?_, below_setRow (below_setRow HB3.out (Nat.le_refl _) _) (Nat.le_refl _) _⟩
      exact ⟨rfl, rfl, flat_rp (by rcases HK.out with rfl | rfl <;> decide) (by rcases HK.out with rfl | rfl <;> decide) (by decide) (by decide) (by omega)⟩
  | bad y =>
    simp only [hn, bulkVal, zeroV] at HN
    clear hn
    go_enter Tryd.func20, Tryd.ntmps20
    go_wp2_with fail
    refine (HC.out _).mono ?_; rintro e w1 ⟨rfl, hb⟩
    have HB := hid ((below_alloc w _).trans (hb.out.mono (by simp)))
    have HRw := hid ((hb.out.block _ (by simp)).trans (HZ.out _))
    have hwlt : w.heap.size < w1.heap.size := (Array.getElem?_eq_some_iff.1 HRw.out).1
    clear hb HC
    go_wp2_with fail
    refine (HN.out _ HB.out).mono ?_; rintro e w3 ⟨rfl, hb3⟩
    have HB3 := hid (HB.out.trans (hb3.out.mono HB.out.size))
    have HR3 := hid ((hb3.out.block w.heap.size hwlt).trans HRw.out)
    have HR4 := hid (setRow_heap w3 _ _ #[.int .i64 0, .int .i64 0, .string ⟨#[]⟩, .slice none 0 0] _ _ HR3.out)
    clear hb3 HN
    go_wp2_with (first | (refine wpList_store_row rfl 24 _ _ rfl w.heap.size #[.int .i64 0, .int .i64 0, .string ⟨#[]⟩, .slice none 0 0] rfl rfl 24 _ HR3.out (infoRep _ _ _ _) rfl (oneR _ _ _ _ _ _) ?_) | (refine wpList_load_row rfl 24 _ rfl w.heap.size rfl 24 _ (0, 0) _ HR4.out Tryd.underlying24 rfl (infoRep _ _ _ _) ?_) | (refine wpList_store_row rfl 24 _ _ rfl w.heap.size #[.int .i64 0, .int .i64 0, .string ⟨#[]⟩, .slice none 0 0] rfl rfl 24 _ HR4.out (infoRep _ _ _ _) rfl (oneR _ _ _ _ _ _) ?_))
    refine bodyPost_ret (v := .tuple #[.agg #[.int .i64 0, .int .i64 0, .string ⟨#[]⟩, .slice none 0 0], .string ⟨rest.toArray⟩, .int .i64 y]) ?_ rfl ?_
    · exact ret_rep3 rfl rfl rfl rfl (setRow_heap (w3.setRow w.heap.size #[.int .i64 0, .int .i64 0, .string ⟨#[]⟩, .slice none 0 0]) w.heap.size _ #[.int .i64 0, .int .i64 0, .string ⟨#[]⟩, .slice none 0 0] _ _ HR4.out)
    · refine ⟨_, _, _, _, _, _, _, _, rfl, ?_, below_setRow (below_setRow HB3.out (Nat.le_refl _) _) (Nat.le_refl _) _⟩
      exact rfl

end Go.Proofs.YtngkbacnajgmcaaDoor
