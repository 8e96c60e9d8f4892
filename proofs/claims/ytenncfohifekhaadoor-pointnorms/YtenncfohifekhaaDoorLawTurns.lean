/- The laws of turns and squares. -/
import Derived.Test.YtenncfohifekhaaDoorMeth
import Derived.Test.YtenncfohifekhaaDoorRefTurn
namespace Go.Proofs.YtenncfohifekhaaDoor
open Go.RowKit

set_option maxHeartbeats 4000000 in
set_option maxRecDepth 100000 in
theorem turns_any {V : World → Prop} (M : MethP V) (x y n : Int) (w : World) (hV : V w) (n0 : -9223372036854775808 ≤ n) (n1 : n ≤ 9223372036854775807) :
    Calls Tryd.prog 5 #[pv x y, .int .i64 n] w fun e w' => e = .returned (.bool true) ∧ Below w.heap.size w w' := by
  have HM := hid M
  have HV := hid hV
  have HX := hid (pt_new w x y)
  have HB := hid (below_alloc w (pc x y))
  have H1 := hid fun W h => HM.out.turn x y n W h n0 n1
  have H2 := hid fun W => rturn_any x y n W n0 n1
  generalize turnP x y n = T at *
  obtain ⟨tx, ty⟩ := T
  obtain ⟨⟨c0, c1⟩, -⟩ := pt_facts HX.out
  have HWd := hid HB.out.drew
  clear M hV
  go_enter Tryd.func5, Tryd.ntmps5
  go_wp2_with fail
  go_region_law (first
    | (go_simp; go_at_call 11; refine (alive_any HM.out _ (HM.out.env HV.out HWd.out)).mono ?_; rintro e w1 ⟨rfl, hh⟩; have HX1 := hid ((hh.out.block w.heap.size (by simp)).trans HX.out); have HW1 := hid (HWd.out.trans (hh.out.mono HWd.out.size)); clear hh; obtain ⟨⟨d0, d1⟩, -⟩ := pt_facts HX1.out)
    | (go_simp; go_at_call 14; refine (H1.out _ (HM.out.env HV.out HW1.out)).mono ?_; rintro e w2 ⟨rfl, hh⟩; have HX2 := hid ((hh.out.block w.heap.size (Array.getElem?_eq_some_iff.1 HX1.out).1).trans HX1.out); have HW2 := hid (HW1.out.trans (hh.out.mono HW1.out.size)); clear hh; obtain ⟨⟨e0, e1⟩, -⟩ := pt_facts HX2.out)
    | (go_simp; go_at_call 15; refine (H2.out _).mono ?_; rintro e w3 ⟨rfl, hh⟩; have HW3 := hid (HW2.out.trans (hh.out.mono HW2.out.size)); clear hh))
  all_goals go_wp2_with fail
  all_goals go_ret
  all_goals exact ⟨rfl, HW3.out⟩

set_option maxHeartbeats 4000000 in
set_option maxRecDepth 100000 in
theorem norms_any {V : World → Prop} (M : MethP V) (x y : Int) (w : World) (hV : V w) :
    Calls Tryd.prog 6 #[pv x y] w fun e w' => e = .returned (.bool true) ∧ Below w.heap.size w w' := by
  have HM := hid M
  have HV := hid hV
  have HX := hid (pt_new w x y)
  have HB := hid (below_alloc w (pc x y))
  have H1 := hid fun W h => HM.out.right x y W h
  have H2 := hid fun W => rright_any x y W
  have H3 := hid fun W h => HM.out.norm x y W h
  have H4 := hid fun W => rnorm_any x y W
  generalize rt x y = T at *
  generalize normP x y = N at *
  have hbb : (T == T) = true := by simp
  obtain ⟨⟨c0, c1⟩, -⟩ := pt_facts HX.out
  have HWd := hid HB.out.drew
  clear M hV
  go_enter Tryd.func6, Tryd.ntmps6
  go_wp2_with fail
  go_region_law (first
    | (go_simp; go_at_call 11; refine (alive_any HM.out _ (HM.out.env HV.out HWd.out)).mono ?_; rintro e w1 ⟨rfl, hh⟩; have HX1 := hid ((hh.out.block w.heap.size (by simp)).trans HX.out); have HW1 := hid (HWd.out.trans (hh.out.mono HWd.out.size)); clear hh; obtain ⟨⟨c10, c11⟩, -⟩ := pt_facts HX1.out)
    | (go_simp; go_at_call 16; refine (H1.out _ (HM.out.env HV.out HW1.out)).mono ?_; rintro e w2 ⟨rfl, hh⟩; have HX2 := hid ((hh.out.block w.heap.size (Array.getElem?_eq_some_iff.1 HX1.out).1).trans HX1.out); have HW2 := hid (HW1.out.trans (hh.out.mono HW1.out.size)); clear hh; obtain ⟨⟨c20, c21⟩, -⟩ := pt_facts HX2.out)
    | (go_simp; go_at_call 17; refine (H2.out _ ).mono ?_; rintro e w3 ⟨rfl, hh⟩; have HX3 := hid ((hh.out.block w.heap.size (Array.getElem?_eq_some_iff.1 HX2.out).1).trans HX2.out); have HW3 := hid (HW2.out.trans (hh.out.mono HW2.out.size)); clear hh; obtain ⟨⟨c30, c31⟩, -⟩ := pt_facts HX3.out)
    | (go_simp; go_at_call 18; refine (H3.out _ (HM.out.env HV.out HW3.out)).mono ?_; rintro e w4 ⟨rfl, hh⟩; have HX4 := hid ((hh.out.block w.heap.size (Array.getElem?_eq_some_iff.1 HX3.out).1).trans HX3.out); have HW4 := hid (HW3.out.trans (hh.out.mono HW3.out.size)); clear hh; obtain ⟨⟨c40, c41⟩, -⟩ := pt_facts HX4.out)
    | (go_simp; go_at_call 19; refine (H4.out _ ).mono ?_; rintro e w5 ⟨rfl, hh⟩; have HX5 := hid ((hh.out.block w.heap.size (Array.getElem?_eq_some_iff.1 HX4.out).1).trans HX4.out); have HW5 := hid (HW4.out.trans (hh.out.mono HW4.out.size)); clear hh; obtain ⟨⟨c50, c51⟩, -⟩ := pt_facts HX5.out))
  all_goals go_wp2_with fail
  all_goals go_ret
  all_goals exact ⟨rfl, HW5.out⟩

end Go.Proofs.YtenncfohifekhaaDoor
