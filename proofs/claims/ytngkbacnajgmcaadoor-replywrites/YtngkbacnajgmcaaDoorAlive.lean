/- A reply that is read: the law's alive. -/
import Derived.Test.YtngkbacnajgmcaaDoorListP
import Derived.Test.YtngkbacnajgmcaaDoorReadOne
import Derived.Test.YtngkbacnajgmcaaDoorBack
namespace Go.Proofs.YtngkbacnajgmcaaDoor
open Go.RowKit

theorem ba_append (a b : List UInt8) : (⟨a.toArray⟩ ++ ⟨b.toArray⟩ : ByteArray) = ⟨(a ++ b).toArray⟩ := by
  apply ByteArray.ext
  simp
/-- two texts, written -/
def lit : List UInt8 := [42, 50, 13, 10, 36, 49, 13, 10, 97, 13, 10, 36, 48, 13, 10, 13, 10]
def two : Rep := listR [[97], []]
theorem two_enc : enc 4 two = some lit := by kernel_rfl
theorem two_fits : Fits 4 two := by
  have h1 : Fit (bulkR [97]) := ⟨by decide, by decide, by decide, by decide, by decide, by decide⟩
  have h0 : Fit (bulkR []) := ⟨by decide, by decide, by decide, by decide, by decide, by decide⟩
  refine ⟨⟨by decide, by decide, by decide, by decide, by decide, by decide⟩, fun x hx => ?_⟩
  simp only [two, listR, Rep.list, List.map_cons, List.map_nil, List.mem_cons, List.not_mem_nil, or_false] at hx
  rcases hx with rfl | rfl
  · exact ⟨h1, fun x hx => by simp [bulkR, Rep.list] at hx⟩
  · exact ⟨h0, fun x hx => by simp [bulkR, Rep.list] at hx⟩
theorem two_rd : rd 4 (lit ++ [120]) = .got two [120] := rd_back [120] two_fits two_enc
theorem two_cost : cost 4 two ≤ 140737488300000 := by decide
theorem strs_two (w : World) : Strs (w.alloc (.cells #[.string ⟨#[97]⟩, .string ⟨#[]⟩] 9)) (some ⟨w.heap.size, 0, none⟩) [[97], []] := fun _ => ⟨w.heap.size, 0, rfl, fun i hi => by
  rw [Nat.zero_add, cell_of_row _ _ _ _ _ _ (heap_alloc_new w _)]
  match i, hi with
  | 0, _ => rfl
  | 1, _ => rfl⟩
set_option maxHeartbeats 2000000 in
set_option maxRecDepth 100000 in
/-- alive -/
theorem alive_any (w : World) (hE : Env w) : Calls Tryd.prog 10 #[] w fun e w' => e = .returned (.bool true) ∧ Hid (Below w.heap.size w w') := by
  have HL := hid (list_any (some ⟨w.heap.size, 0, none⟩) [[97], []] 2 (w.alloc (.cells #[.string ⟨#[97]⟩, .string ⟨#[]⟩] 9)) (strs_two w) (by decide) (by decide))
  simp only [List.length_cons, List.length_nil, Nat.zero_add, Nat.reduceAdd] at HL
  have HE := hid fun (W : World) (hb : Below w.heap.size w W) => hE.below hb hE.room
  clear hE
  go_enter Tryd.func10, Tryd.ntmps10
  go_wp2_with fail
  refine HL.out.mono ?_; rintro e w1 ⟨q, c, rfl, hh⟩
  have HB1 := hid ((below_alloc w _).trans (hh.out.2.mono (by simp)))
  have HN := hid (encode_any _ two 2 w1 (HE.out _ HB1.out) hh.out.1 two_cost)
  rw [encOut_some two_enc] at HN
  clear hh HL
  go_wp2_with fail
  refine HN.out.mono ?_; rintro e w2 ⟨rfl, hb2⟩
  have HB2 := hid (HB1.out.trans (hb2.out.mono HB1.out.size))
  have HD := hid (decode_any (lit ++ [120]) w2 (HE.out _ HB2.out) (by decide))
  rw [two_rd] at HD
  clear hb2 HN HB1
  go_wp2_with fail
  refine HD.out.mono ?_; rintro e w3 ⟨a0, a1, a2, p, m, c', n, x, rfl, hh⟩
  obtain ⟨rfl, rfl, hrp⟩ := hh.out.1
  obtain ⟨rfl, rfl, rfl, rfl⟩ := hrp.shape
  have HB3 := hid (HB2.out.trans (hh.out.2.mono HB2.out.size))
  have HS := hid fun (o : Obj) => same_any _ _ _ _ (w3.alloc o) ((hrp.all (Nat.le_refl _)).below (below_alloc w3 o) (Nat.le_refl _)) ((hrp.all (Nat.le_refl _)).below (below_alloc w3 o) (Nat.le_refl _))
  have hm : two.list.length = 2 := rfl
  rw [hm] at HS ⊢
  have hn : (((lit ++ [120]).length : Nat) : Int) - (([120] : List UInt8).length : Int) = 17 := by decide
  rw [hn]
  clear hrp hh HD HB2 hn hm
  go_wp2_with fail
  refine (HS.out _).mono ?_; rintro e w4 ⟨b, rfl, hh⟩
  obtain rfl : b = true := hh.out.1.2 (by simp)
  have HB4 := hid ((HB3.out.alloc HB3.out.size _).trans (hh.out.2.mono (by have := HB3.out.size; simp; omega)))
  clear hh
  go_wp2_with fail
  go_ret
  exact ⟨rfl, HB4.out⟩

end Go.Proofs.YtngkbacnajgmcaaDoor
