/- The laws of sums and products. -/
import Derived.Test.YtenncfohifekhaaDoorMeth
import Derived.Test.YtenncfohifekhaaDoorPts
namespace Go.Proofs.YtenncfohifekhaaDoor
open Go.RowKit

set_option maxHeartbeats 2000000 in
set_option maxRecDepth 100000 in
theorem adds_any {V : World → Prop} (M : MethP V) (a b c d : Int) (w : World) (hV : V w) :
    Calls Tryd.prog 3 #[pv a b, pv c d] w fun e w' => e = .returned (.bool true) ∧ Below w.heap.size w w' := by
  have HM := hid M
  have HV := hid hV
  have HA := hid (al2 w (pc a b) (pc c d))
  have H1 := hid fun W h => HM.out.add a b c d W h
  have H2 := hid fun W => radd_any a b c d W
  generalize addP a b c d = T at *
  obtain ⟨tx, ty, te⟩ := T
  clear M hV
  go_enter Tryd.func3, Tryd.ntmps3
  go_wp2_with fail
  refine (H1.out _ (HM.out.env HV.out HA.out.1)).mono ?_; rintro e w1 ⟨rfl, hh⟩
  have HX1 := hid ((heap_alloc_old w1 (pc tx ty) (show w.heap.size < w1.heap.size by have := hh.out.size; simp at this; omega)).trans ((hh.out.block w.heap.size (by simp; omega)).trans HA.out.2.1))
  have HY1 := hid ((heap_alloc_old w1 (pc tx ty) (show w.heap.size + 1 < w1.heap.size by have := hh.out.size; simp at this; omega)).trans ((hh.out.block (w.heap.size + 1) (by simp)).trans HA.out.2.2.1))
  have HT1 := hid (pt_new w1 tx ty)
  have HW0 := hid (HA.out.1.trans (hh.out.mono HA.out.1.size))
  have HW1 := hid (HW0.out.trans ((below_alloc w1 (pc tx ty)).mono HW0.out.size))
  clear hh
  obtain ⟨⟨x0, x1⟩, -⟩ := pt_facts HX1.out
  obtain ⟨⟨y0, y1⟩, -⟩ := pt_facts HY1.out
  go_wp2_with fail
  refine (H2.out _).mono ?_; rintro e w2 ⟨rfl, hh⟩
  have HT2 := hid ((heap_alloc_old w2 (pc tx ty) (show w1.heap.size < w2.heap.size by have := hh.out.size; simp at this; omega)).trans ((hh.out.block w1.heap.size (by simp)).trans HT1.out))
  have HU2 := hid (pt_new w2 tx ty)
  have HW2 := hid (HW1.out.trans (hh.out.mono HW1.out.size))
  have HW3 := hid (HW2.out.trans ((below_alloc w2 (pc tx ty)).mono HW2.out.size))
  clear hh x0 x1 y0 y1
  go_wp2_with fail
  refine (alive_any HM.out _ (HM.out.env HV.out HW3.out)).mono ?_; rintro e w3 ⟨rfl, hh⟩
  have HT3 := hid ((hh.out.block w1.heap.size (by have := (Array.getElem?_eq_some_iff.1 HT2.out).1; exact this)).trans HT2.out)
  have HU3 := hid ((hh.out.block w2.heap.size (by simp)).trans HU2.out)
  have HW4 := hid (HW3.out.trans (hh.out.mono HW3.out.size))
  clear hh
  obtain ⟨⟨t0, t1⟩, -⟩ := pt_facts HT3.out
  obtain ⟨⟨u0, u1⟩, -⟩ := pt_facts HU3.out
  go_wp2_with fail
  go_ret
  exact ⟨rfl, HW4.out⟩
set_option maxHeartbeats 2000000 in
set_option maxRecDepth 100000 in
theorem times_any {V : World → Prop} (M : MethP V) (a b c d : Int) (w : World) (hV : V w) :
    Calls Tryd.prog 4 #[pv a b, pv c d] w fun e w' => e = .returned (.bool true) ∧ Below w.heap.size w w' := by
  have HM := hid M
  have HV := hid hV
  have HA := hid (al2 w (pc a b) (pc c d))
  have H1 := hid fun W h => HM.out.times a b c d W h
  have H2 := hid fun W => rtimes_any a b c d W
  generalize mulP a b c d = T at *
  obtain ⟨tx, ty, te⟩ := T
  clear M hV
  go_enter Tryd.func4, Tryd.ntmps4
  go_wp2_with fail
  refine (H1.out _ (HM.out.env HV.out HA.out.1)).mono ?_; rintro e w1 ⟨rfl, hh⟩
  have HX1 := hid ((heap_alloc_old w1 (pc tx ty) (show w.heap.size < w1.heap.size by have := hh.out.size; simp at this; omega)).trans ((hh.out.block w.heap.size (by simp; omega)).trans HA.out.2.1))
  have HY1 := hid ((heap_alloc_old w1 (pc tx ty) (show w.heap.size + 1 < w1.heap.size by have := hh.out.size; simp at this; omega)).trans ((hh.out.block (w.heap.size + 1) (by simp)).trans HA.out.2.2.1))
  have HT1 := hid (pt_new w1 tx ty)
  have HW0 := hid (HA.out.1.trans (hh.out.mono HA.out.1.size))
  have HW1 := hid (HW0.out.trans ((below_alloc w1 (pc tx ty)).mono HW0.out.size))
  clear hh
  obtain ⟨⟨x0, x1⟩, -⟩ := pt_facts HX1.out
  obtain ⟨⟨y0, y1⟩, -⟩ := pt_facts HY1.out
  go_wp2_with fail
  refine (H2.out _).mono ?_; rintro e w2 ⟨rfl, hh⟩
  have HT2 := hid ((heap_alloc_old w2 (pc tx ty) (show w1.heap.size < w2.heap.size by have := hh.out.size; simp at this; omega)).trans ((hh.out.block w1.heap.size (by simp)).trans HT1.out))
  have HU2 := hid (pt_new w2 tx ty)
  have HW2 := hid (HW1.out.trans (hh.out.mono HW1.out.size))
  have HW3 := hid (HW2.out.trans ((below_alloc w2 (pc tx ty)).mono HW2.out.size))
  clear hh x0 x1 y0 y1
  go_wp2_with fail
  refine (alive_any HM.out _ (HM.out.env HV.out HW3.out)).mono ?_; rintro e w3 ⟨rfl, hh⟩
  have HT3 := hid ((hh.out.block w1.heap.size (by have := (Array.getElem?_eq_some_iff.1 HT2.out).1; exact this)).trans HT2.out)
  have HU3 := hid ((hh.out.block w2.heap.size (by simp)).trans HU2.out)
  have HW4 := hid (HW3.out.trans (hh.out.mono HW3.out.size))
  clear hh
  obtain ⟨⟨t0, t1⟩, -⟩ := pt_facts HT3.out
  obtain ⟨⟨u0, u1⟩, -⟩ := pt_facts HU3.out
  go_wp2_with fail
  go_ret
  exact ⟨rfl, HW4.out⟩

end Go.Proofs.YtenncfohifekhaaDoor
