/- A reply of one line: read at a line that begins with the byte 43. -/
import Derived.Test.YtngkbacnajgmcaaDoorLined
namespace Go.Proofs.YtngkbacnajgmcaaDoor
open Go.RowKit

set_option maxHeartbeats 2000000 in
set_option maxRecDepth 100000 in
theorem read_43 {w : World} {k : Nat} {s text rest : List UInt8} {L : ByteArray} (H : Lined w k s text rest L 43) : Told w k s (rdKind (subOf k) 43 text rest) := by
  have hs1 := H.tail
  have hs2 := H.head
  have HC := H.cut
  have htl := H.text
  have hrl := H.rest
  have hk := H.room
  have hE := H.env
  have HZ := hid fun (o : Obj) => heap_alloc_new w o
  have HE := hid fun (W : World) (hb : Below w.heap.size w W) => hE.below hb hE.room
  clear hE H
  rw [kind43]
  unfold Told
  have HT := hid fun (w : World) => readText_any 1 text w (by omega)
  by_cases hp : Pl text
  · rw [if_pos hp]
    have htv : textVal 1 text = .tuple #[.agg #[.int .i64 1, .int .i64 0, .string ⟨text.toArray⟩, .slice none 0 0], .int .i64 0] := by unfold textVal; rw [if_pos hp]
    simp only [htv] at HT
    clear htv hp
    go_enter Tryd.func20, Tryd.ntmps20
    go_wp2_with fail
    refine (HC.out _).mono ?_; rintro e w1 ⟨rfl, hb⟩
    have HB := hid ((below_alloc w _).trans (hb.out.mono (by simp)))
    have HRw := hid ((hb.out.block _ (by simp)).trans (HZ.out _))
    have hwlt : w.heap.size < w1.heap.size := (Array.getElem?_eq_some_iff.1 HRw.out).1
    clear hb HC
    go_wp2_with fail
    refine (HT.out _).mono ?_; rintro e w3 ⟨rfl, hb3⟩
    have HB3 := hid (HB.out.trans (hb3.out.mono HB.out.size))
    have HR3 := hid ((hb3.out.block w.heap.size hwlt).trans HRw.out)
    have HR4 := hid (setRow_heap w3 _ _ #[.int .i64 1, .int .i64 0, .string ⟨text.toArray⟩, .slice none 0 0] _ _ HR3.out)
    clear hb3 HT
    go_wp2_with (first | (refine wpList_store_row rfl 24 _ _ rfl w.heap.size #[.int .i64 1, .int .i64 0, .string ⟨text.toArray⟩, .slice none 0 0] rfl rfl 24 _ HR3.out (infoRep _ _ _ _) rfl (oneR _ _ _ _ _ _) ?_) | (refine wpList_load_row rfl 24 _ rfl w.heap.size rfl 24 _ (0, 0) _ HR4.out Tryd.underlying24 rfl (infoRep _ _ _ _) ?_) | (refine wpList_store_row rfl 24 _ _ rfl w.heap.size #[.int .i64 1, .int .i64 0, .string ⟨text.toArray⟩, .slice none 0 0] rfl rfl 24 _ HR4.out (infoRep _ _ _ _) rfl (oneR _ _ _ _ _ _) ?_))
    refine bodyPost_ret (v := .tuple #[.agg #[.int .i64 1, .int .i64 0, .string ⟨text.toArray⟩, .slice none 0 0], .string ⟨rest.toArray⟩, .int .i64 0]) ?_ rfl ?_
    · exact ret_rep3 rfl rfl rfl rfl (setRow_heap (w3.setRow w.heap.size #[.int .i64 1, .int .i64 0, .string ⟨text.toArray⟩, .slice none 0 0]) w.heap.size _ #[.int .i64 1, .int .i64 0, .string ⟨text.toArray⟩, .slice none 0 0] _ _ HR4.out)
    · refine ⟨_, _, _, _, _, _, _, _, rfl, ?_, below_setRow (below_setRow HB3.out (Nat.le_refl _) _) (Nat.le_refl _) _⟩
      exact ⟨rfl, rfl, flat_rp (by decide) (by decide) (by decide) (by decide) (by omega)⟩
  · rw [if_neg hp]
    have htv : textVal 1 text = .tuple #[.agg #[.int .i64 0, .int .i64 0, .string ⟨#[]⟩, .slice none 0 0], .int .i64 41] := by unfold textVal; rw [if_neg hp]
    simp only [htv] at HT
    clear htv hp
    go_enter Tryd.func20, Tryd.ntmps20
    go_wp2_with fail
    refine (HC.out _).mono ?_; rintro e w1 ⟨rfl, hb⟩
    have HB := hid ((below_alloc w _).trans (hb.out.mono (by simp)))
    have HRw := hid ((hb.out.block _ (by simp)).trans (HZ.out _))
    have hwlt : w.heap.size < w1.heap.size := (Array.getElem?_eq_some_iff.1 HRw.out).1
    clear hb HC
    go_wp2_with fail
    refine (HT.out _).mono ?_; rintro e w3 ⟨rfl, hb3⟩
    have HB3 := hid (HB.out.trans (hb3.out.mono HB.out.size))
    have HR3 := hid ((hb3.out.block w.heap.size hwlt).trans HRw.out)
    have HR4 := hid (setRow_heap w3 _ _ #[.int .i64 0, .int .i64 0, .string ⟨#[]⟩, .slice none 0 0] _ _ HR3.out)
    clear hb3 HT
    go_wp2_with (first | (refine wpList_store_row rfl 24 _ _ rfl w.heap.size #[.int .i64 0, .int .i64 0, .string ⟨#[]⟩, .slice none 0 0] rfl rfl 24 _ HR3.out (infoRep _ _ _ _) rfl (oneR _ _ _ _ _ _) ?_) | (refine wpList_load_row rfl 24 _ rfl w.heap.size rfl 24 _ (0, 0) _ HR4.out Tryd.underlying24 rfl (infoRep _ _ _ _) ?_) | (refine wpList_store_row rfl 24 _ _ rfl w.heap.size #[.int .i64 0, .int .i64 0, .string ⟨#[]⟩, .slice none 0 0] rfl rfl 24 _ HR4.out (infoRep _ _ _ _) rfl (oneR _ _ _ _ _ _) ?_))
    refine bodyPost_ret (v := .tuple #[.agg #[.int .i64 0, .int .i64 0, .string ⟨#[]⟩, .slice none 0 0], .string ⟨rest.toArray⟩, .int .i64 41]) ?_ rfl ?_
    · exact ret_rep3 rfl rfl rfl rfl (setRow_heap (w3.setRow w.heap.size #[.int .i64 0, .int .i64 0, .string ⟨#[]⟩, .slice none 0 0]) w.heap.size _ #[.int .i64 0, .int .i64 0, .string ⟨#[]⟩, .slice none 0 0] _ _ HR4.out)
    · refine ⟨_, _, _, _, _, _, _, _, rfl, ?_, below_setRow (below_setRow HB3.out (Nat.le_refl _) _) (Nat.le_refl _) _⟩
      exact rfl

end Go.Proofs.YtngkbacnajgmcaaDoor
