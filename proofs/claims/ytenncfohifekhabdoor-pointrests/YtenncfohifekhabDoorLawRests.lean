/- The law of contraries and noughts. -/
import Derived.Test.YtenncfohifekhabDoorBks
namespace Go.Proofs.YtenncfohifekhabDoor
open Go.RowKit

set_option maxHeartbeats 4000000 in
set_option maxRecDepth 100000 in
theorem rests_any {V : World → Prop} (M : MethP V) (x y : Int) (w : World) (hV : V w) :
    Calls Tryd.prog 6 #[pv x y] w fun e w' => e = .returned (.bool true) ∧ Below w.heap.size w w' := by
  have HM := hid M
  have HV := hid hV
  have HX := hid (show Bk _ _ x y from pt_new w x y)
  have HW := hid (below_alloc w (pc x y))
  have HR := hid fun W => rright_any x y W
  by_cases h : rt x y = true
  · obtain ⟨x0, x1, y0, y1⟩ := rt_iff.1 h
    rw [h] at HR
    have H1 := hid fun W h => HM.out.add x y (-x) (-y) W h
    rw [rest_add h] at H1
    have H2 := hid fun W h => HM.out.add x y 0 0 W h
    rw [zero_add_p h] at H2
    have H3 := hid fun W h => HM.out.times x y 1 0 W h
    rw [one_mul_p h] at H3
    clear M hV h
    obtain ⟨⟨Xc0, Xc1⟩, -⟩ := pt_facts HX.out
    go_enter Tryd.func6, Tryd.ntmps6
    go_wp2_with fail
    refine (HR.out _).mono ?_; rintro e w0 ⟨rfl, hh⟩
    clear Xc0 Xc1
    have X_0 := hid (HX.out.below hh.out)
    have HW0 := hid (HW.out.trans (hh.out.mono HW.out.size))
    clear hh
    obtain ⟨⟨Xc0, Xc1⟩, -⟩ := pt_facts X_0.out
    go_wp2_with fail
    refine (H1.out _ (HM.out.env HV.out HW0.out)).mono ?_; rintro e w1 ⟨rfl, hh⟩
    clear Xc0 Xc1
    have X_1 := hid (X_0.out.below hh.out)
    have HW1 := hid (HW0.out.trans (hh.out.mono HW0.out.size))
    clear hh
    have Xa_1 := hid (X_1.out.below (below_alloc w1 (pc 0 0)))
    have HWa1 := hid (HW1.out.trans ((below_alloc w1 (pc 0 0)).mono HW1.out.size))
    have Z_1 := hid (show Bk _ _ 0 0 from pt_new w1 0 0)
    obtain ⟨⟨Xc0, Xc1⟩, -⟩ := pt_facts Xa_1.out
    obtain ⟨⟨Zc0, Zc1⟩, -⟩ := pt_facts Z_1.out
    go_wp2_with fail
    refine (H2.out _ (HM.out.env HV.out HWa1.out)).mono ?_; rintro e w2 ⟨rfl, hh⟩
    clear Xc0 Xc1 Zc0 Zc1
    have X_2 := hid (Xa_1.out.below hh.out)
    have Z_2 := hid (Z_1.out.below hh.out)
    have HW2 := hid (HWa1.out.trans (hh.out.mono HWa1.out.size))
    clear hh
    have Xa_2 := hid (X_2.out.below (below_alloc w2 (pc x y)))
    have Za_2 := hid (Z_2.out.below (below_alloc w2 (pc x y)))
    have HWa2 := hid (HW2.out.trans ((below_alloc w2 (pc x y)).mono HW2.out.size))
    have Q_2 := hid (show Bk _ _ x y from pt_new w2 x y)
    obtain ⟨⟨Xc0, Xc1⟩, -⟩ := pt_facts Xa_2.out
    obtain ⟨⟨Zc0, Zc1⟩, -⟩ := pt_facts Za_2.out
    obtain ⟨⟨Qc0, Qc1⟩, -⟩ := pt_facts Q_2.out
    go_wp2_with fail
    refine (H3.out _ (HM.out.env HV.out HWa2.out)).mono ?_; rintro e w3 ⟨rfl, hh⟩
    clear Xc0 Xc1 Zc0 Zc1 Qc0 Qc1
    have X_3 := hid (Xa_2.out.below hh.out)
    have Z_3 := hid (Za_2.out.below hh.out)
    have Q_3 := hid (Q_2.out.below hh.out)
    have HW3 := hid (HWa2.out.trans (hh.out.mono HWa2.out.size))
    clear hh
    have Xa_3 := hid (X_3.out.below (below_alloc w3 (pc x y)))
    have Za_3 := hid (Z_3.out.below (below_alloc w3 (pc x y)))
    have Qa_3 := hid (Q_3.out.below (below_alloc w3 (pc x y)))
    have HWa3 := hid (HW3.out.trans ((below_alloc w3 (pc x y)).mono HW3.out.size))
    have O_3 := hid (show Bk _ _ x y from pt_new w3 x y)
    obtain ⟨⟨Xc0, Xc1⟩, -⟩ := pt_facts Xa_3.out
    obtain ⟨⟨Zc0, Zc1⟩, -⟩ := pt_facts Za_3.out
    obtain ⟨⟨Qc0, Qc1⟩, -⟩ := pt_facts Qa_3.out
    obtain ⟨⟨Oc0, Oc1⟩, -⟩ := pt_facts O_3.out
    go_wp2_with fail
    refine (alive_any HM.out _ (HM.out.env HV.out HWa3.out)).mono ?_; rintro e w4 ⟨rfl, hh⟩
    clear Xc0 Xc1 Zc0 Zc1 Qc0 Qc1 Oc0 Oc1
    have X_4 := hid (Xa_3.out.below hh.out)
    have Z_4 := hid (Za_3.out.below hh.out)
    have Q_4 := hid (Qa_3.out.below hh.out)
    have O_4 := hid (O_3.out.below hh.out)
    have HW4 := hid (HWa3.out.trans (hh.out.mono HWa3.out.size))
    clear hh
    obtain ⟨⟨Xc0, Xc1⟩, -⟩ := pt_facts X_4.out
    obtain ⟨⟨Zc0, Zc1⟩, -⟩ := pt_facts Z_4.out
    obtain ⟨⟨Qc0, Qc1⟩, -⟩ := pt_facts Q_4.out
    obtain ⟨⟨Oc0, Oc1⟩, -⟩ := pt_facts O_4.out
    go_wp2_with fail
    go_ret
    exact ⟨rfl, HW4.out⟩
  · have h' : rt x y = false := by simpa using h
    rw [h'] at HR
    clear M hV h h'
    obtain ⟨⟨Xc0, Xc1⟩, -⟩ := pt_facts HX.out
    go_enter Tryd.func6, Tryd.ntmps6
    go_wp2_with fail
    refine (HR.out _).mono ?_; rintro e w0 ⟨rfl, hh⟩
    have HW0 := hid (HW.out.trans (hh.out.mono HW.out.size))
    clear hh
    go_wp2_with fail
    refine (alive_any HM.out _ (HM.out.env HV.out HW0.out)).mono ?_; rintro e w1 ⟨rfl, hh⟩
    have HW1 := hid (HW0.out.trans (hh.out.mono HW0.out.size))
    clear hh
    go_wp2_with fail
    go_ret
    exact ⟨rfl, HW1.out⟩

end Go.Proofs.YtenncfohifekhabDoor
