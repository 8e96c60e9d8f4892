/- The first of a row is taken. -/
import Derived.Test.YtjcfbnhmljlkpaaLkPut
namespace Go.Proofs.Ytjcfbnhmljlkpaa
open Go.RowKit

def TakeP (rb : Nat) (p : Pc) (l : List Pc) (w : World) (e : Ending) (w' : World) : Prop :=
  e = .returned (.agg (ltC p.x p.ap p.ac p.rp p.rc)) ∧ Hid (w'.heap[rb]? = some (.cells (rowC (fstA l) (lstA (p :: l)) l.length) 63 (0, 0)) ∧ Below 0 w w' ∧ ∀ k, k < w.heap.size → k ≠ rb → w'.heap[k]? = w.heap[k]?)
theorem pl_range {W : World} {b : Nat} {x : Lt} {ap : Option Addr} {ac : Nat} {rp : Option Addr} {rc : Nat} {n : Option Addr} (h : W.heap[b]? = some (.cells (plC x ap ac rp rc n) 65 (0, 0))) : W.rangeAt b 0 (ltC x ap ac rp rc).toList :=
  fun j v hj => by
    have hj' : j < 13 := (List.getElem?_eq_some_iff.1 hj).1
    rw [cell_of_row W b _ _ _ _ h, Nat.zero_add]
    have : j = 0 ∨ j = 1 ∨ j = 2 ∨ j = 3 ∨ j = 4 ∨ j = 5 ∨ j = 6 ∨ j = 7 ∨ j = 8 ∨ j = 9 ∨ j = 10 ∨ j = 11 ∨ j = 12 := by omega
    rcases this with rfl | rfl | rfl | rfl | rfl | rfl | rfl | rfl | rfl | rfl | rfl | rfl | rfl <;> exact hj
set_option maxHeartbeats 4000000 in
set_option maxRecDepth 100000 in
theorem take_any (rb : Nat) (p : Pc) (l : List Pc) (w : World) (hR : RowB w rb (p :: l)) (hC : Chain w (p :: l)) (hl : l.length ≤ 100000) :
    Calls Try.prog 25 #[ptr rb] w (TakeP rb p l w) := by
  have hb1 := below_alloc w (.cells zeroL 33)
  have hrb : rb < w.heap.size := (Array.getElem?_eq_some_iff.1 hR).1
  have hpb : p.b < w.heap.size := hC.lt p (by simp)
  obtain ⟨w1, hw1⟩ : ∃ W, w.alloc (.cells zeroL 33) = W := ⟨_, rfl⟩
  have hr1 : RowB w1 rb (p :: l) := by rw [← hw1]; exact (hb1.block rb hrb).trans hR
  have hp1 : w1.heap[p.b]? = some (.cells (plC p.x p.ap p.ac p.rp p.rc (fstA l)) 65 (0, 0)) := by rw [← hw1]; exact (hb1.block _ hpb).trans hC.1
  have hz1 : w1.heap[w.heap.size]? = some (.cells zeroL 33 (0, 0)) := by rw [← hw1]; exact heap_alloc_new w _
  rw [hw1] at hb1
  obtain ⟨z, hz⟩ : ∃ z, p.b = z := ⟨_, rfl⟩
  rw [hz] at hp1 hpb
  have hzr : rb ≠ z := fun e => by
    have h1 := hr1
    unfold RowB at h1
    rw [e, hp1] at h1
    injection h1 with h1
    injection h1 with _ h1
    exact absurd h1 (by decide)
  obtain ⟨c0, c1, c2⟩ := hr1.facts
  obtain ⟨f0, f1, f2⟩ := hr1.froz
  obtain ⟨N, hN⟩ : ∃ N, l.length = N := ⟨_, rfl⟩
  rw [show fstA (p :: l) = some ⟨z, 0, none⟩ by rw [← hz]; rfl] at c0
  rw [show (((p :: l).length : Nat) : Int) = (N : Int) + 1 by rw [← hN]; simp] at c2
  have z13 : w1.cell? ⟨z, 13, none⟩ = some (.pointer (fstA l)) := cell_of_row w1 z 13 _ _ _ hp1
  obtain ⟨NX, hNX⟩ : ∃ a, fstA l = a := ⟨_, rfl⟩
  rw [hNX] at z13
  have hNz : (N : Int) ≤ 100000 := by omega
  have HR1 := hid hr1
  have HP1 := hid hp1
  have HZ1 := hid hz1
  have HB1 := hid hb1
  have HN := hid hN
  have HNX := hid hNX
  have Hrb := hid hrb
  have Hzr := hid hzr
  have Hpb := hid hpb
  have HW1 := hid hw1
  clear hR hC hl hw1 hr1 hp1 hz1 hb1 hN hNX hrb hzr hpb hz
  go_enter Try.func25, Try.ntmps25
  go_upto_region 1 with fail
  rw [HW1.out]
  go_upto_region 4 with fail
  generalize hw3 : (w1.setCell _ _).setCell _ _ = w3
  have hoth : ∀ k, k ≠ rb → w3.heap[k]? = w1.heap[k]? := fun k hne => by
    rw [← hw3, heap_setCell_other _ _ _ _ hne, heap_setCell_other _ _ _ _ hne]
  have hr3 : w3.heap[rb]? = some (.cells (rowC NX (lstA (p :: l)) l.length) 63 (0, 0)) := by
    have h1 := heap_setCell_same w1 rb 0 _ _ (.pointer NX) HR1.out
    rw [← hw3, heap_setCell_same _ rb 2 _ _ _ h1, HN.out]
    rfl
  have hz3 : w3.heap[w.heap.size]? = some (.cells zeroL 33 (0, 0)) := (hoth _ (by have := Hrb.out; omega)).trans HZ1.out
  have hp3 : w3.heap[z]? = some (.cells (plC p.x p.ap p.ac p.rp p.rc (fstA l)) 65 (0, 0)) := (hoth _ Hzr.out.symm).trans HP1.out
  have hb3 : Below 0 w w3 := by
    rw [← hw3]
    exact (HB1.out.mono (Nat.zero_le _)).trans (((Below.refl 0 w1).setCell (p := ⟨rb, 0, none⟩) (Nat.zero_le _) _).setCell (p := ⟨rb, 2, none⟩) (Nat.zero_le _) _)
  obtain ⟨CA, hCA⟩ : ∃ C, ltC p.x p.ap p.ac p.rp p.rc = C := ⟨_, rfl⟩
  have hCs : CA.size = 13 := by rw [← hCA]; rfl
  have hC1 : CA.all (·.oneCell') = true := by rw [← hCA]; exact ltC_one _ _ _ _ _
  have iC := infoLt CA hCs
  have HRg : Hid (w3.rangeAt z 0 CA.toList) := by rw [← hCA]; exact pl_range hp3
  have iL : (Try.prog.info? 33).map (·.size) = some CA.toList.length := by rw [Array.length_toList, hCs]; kernel_rfl
  have HCA := hid hCA
  have HR3 := hid hr3
  have HZ3 := hid hz3
  have HB3 := hid hb3
  have HO := hid hoth
  clear hw3 hoth hr3 hz3 hp3 hb3 hCA c0 c1 c2 f0 f1 f2 z13
  go_wp2_with (first
    | (refine wpList_load_mid rfl 33 _ rfl z 0 rfl _ _ HRg.out Try.underlying33 rfl iL (Hid.out ?_); refine hid ?_)
    | (refine wpList_store_row rfl 33 _ _ rfl w.heap.size CA rfl rfl 33 zeroL HZ3.out iC (by rw [hCs]; rfl) hC1 (Hid.out ?_); refine hid ?_))
  have hne : rb ≠ w.heap.size := by have := Hrb.out; omega
  refine bodyPost_ret (v := .agg CA) (ret_lt1 rfl hCs rfl (setRow_heap _ _ _ _ _ _ HZ3.out)) rfl ⟨(by rw [HCA.out]), ?_, ?_, fun k hk hkr => ?_⟩
  · rw [setRow_other _ _ _ _ hne, HR3.out, HNX.out]
  · exact below_setRow HB3.out (Nat.zero_le _) _
  · rw [setRow_other _ _ _ _ (by omega), HO.out k hkr]
    exact HB1.out.block k hk

end Go.Proofs.Ytjcfbnhmljlkpaa
