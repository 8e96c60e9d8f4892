/- alive: what every law asks. -/
import Derived.Test.YtndmhfhihajbdaaAll
import Derived.Test.YtndmhfhihajbdaaKeys
namespace Go.Proofs.Ytndmhfhihajbdaa
open Go.RowKit

def rowA : Row := [[103, 101, 116], [97]]
def rowB : Row := [[109, 115, 101, 116], [97], [49], [98], [50]]
def rowC : Row := [[97], [98]]
theorem chkA : chk rowA = (⟨[71, 69, 84], 1, 1, 1, 1, 1, false⟩, 0) := by kernel_rfl
theorem keysB : keysL rowB = rowC := by kernel_rfl
/-- a row of texts, laid at once -/
theorem rd_new (w : World) (l : Row) : Rd (w.alloc (.cells (l.map txt).toArray 9)) (some ⟨w.heap.size, 0, none⟩) l.length l := by
  refine ⟨fun _ => ⟨w.heap.size, 0, rfl, fun i hi => ?_⟩, (fun h => by cases h), Nat.le_refl _⟩
  rw [cell_of_row _ _ _ _ _ _ (heap_alloc_new w _)]
  simp [hi]
set_option maxHeartbeats 8000000 in
set_option maxRecDepth 100000 in
theorem alive_any (w : World) : Calls Try.prog 11 #[] w fun e w' => e = .returned (.bool true) ∧ Hid (Below w.heap.size w w') := by
  have HA := hid (check_any (some ⟨w.heap.size, 0, none⟩) 2 rowA _ (rd_new w rowA) (by decide) (fun t ht => by
    simp only [rowA, List.mem_cons, List.not_mem_nil, or_false] at ht
    rcases ht with rfl | rfl <;> decide))
  rw [chkA] at HA
  have HB0 := hid (below_alloc w (.cells (rowA.map txt).toArray 9))
  go_enter Try.func11, Try.ntmps11
  go_wp2_with fail
  refine HA.out.mono ?_
  rintro _ W1 ⟨rfl, HW1⟩
  have HB1 : Hid (Below w.heap.size w W1) := HB0.out.trans (HW1.out.mono (by simp))
  have HB2 := hid (HB1.out.trans ((below_alloc W1 (.cells (Sp.cs ⟨[71, 69, 84], 1, 1, 1, 1, 1, false⟩) 25)).mono HB1.out.size))
  clear HA HW1 HB0
  simp only [Sp.cs] at ⊢
  go_wp2_with fail
  refine (all_any _).mono ?_
  rintro _ W3 ⟨q, d, rfl, HW3⟩
  have HB3 : Hid (Below w.heap.size w W3) := HB2.out.trans (HW3.out.2.mono HB2.out.size)
  have HK := hid (keys_any (some ⟨W3.heap.size, 0, none⟩) 5 rowB _ (rd_new W3 rowB) (by decide) (fun t ht => by
    simp only [rowB, List.mem_cons, List.not_mem_nil, or_false] at ht
    rcases ht with rfl | rfl | rfl | rfl | rfl <;> decide))
  rw [keysB] at HK
  have HB4 := hid (HB3.out.trans ((below_alloc W3 (.cells (rowB.map txt).toArray 9)).mono HB3.out.size))
  clear HB1 HB2 HW3
  go_wp2_with fail
  refine HK.out.mono ?_
  rintro _ W5 ⟨q5, d5, rfl, HW5⟩
  have HB5 : Hid (Below w.heap.size w W5) := HB4.out.trans (HW5.out.2.mono HB4.out.size)
  have ha := below_alloc W5 (.cells (rowC.map txt).toArray 9)
  have HS := hid (same_any q5 d5 (some ⟨W5.heap.size, 0, none⟩) 2 rowC rowC _ (HW5.out.1.rd.below ha).strs (rd_new W5 rowC).strs (by decide))
  have HB6 := hid (HB5.out.trans (ha.mono HB5.out.size))
  rw [decide_eq_true rfl] at HS
  clear HB3 HB4 HK HW5 ha
  go_wp2_with fail
  refine HS.out.mono ?_
  rintro _ W7 ⟨rfl, HW7⟩
  have HB7 : Hid (Below w.heap.size w W7) := HB6.out.trans (HW7.out.mono HB6.out.size)
  go_wp2_with fail
  go_ret
  exact ⟨rfl, HB7.out⟩

end Go.Proofs.Ytndmhfhihajbdaa
