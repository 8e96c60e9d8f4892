/- The law of half turns. -/
import Derived.Test.YtenncfohifekhabDoorBks
namespace Go.Proofs.YtenncfohifekhabDoor
open Go.RowKit

set_option maxHeartbeats 4000000 in
set_option maxRecDepth 100000 in
theorem half_any {V : World → Prop} (M : MethP V) (x y : Int) (w : World) (hV : V w) :
    Calls Tryd.prog 5 #[pv x y] w fun e w' => e = .returned (.bool true) ∧ Below w.heap.size w w' := by
  have HM := hid M
  have HV := hid hV
  have HX := hid (show Bk _ _ x y from pt_new w x y)
  have HW := hid (below_alloc w (pc x y))
  have HR := hid fun W => rright_any x y W
  have H1 := hid fun W h => HM.out.times x y (-1) 0 W h
  have H2 := hid fun W h => HM.out.times x y 0 1 W h
  have H3 := hid fun W h => HM.out.turn x y 2 W h (by decide) (by decide)
  have H4 := hid fun W h => HM.out.turn x y 1 W h (by decide) (by decide)
  by_cases h : rt x y = true
  · rw [h] at HR
    rw [half_mul h] at H1
    rw [quarter_mul h] at H2
    rw [turn_two h] at H3
    rw [turn_one h] at H4
    clear M hV h
    obtain ⟨⟨Xc0, Xc1⟩, -⟩ := pt_facts HX.out
    go_enter Tryd.func5, Tryd.ntmps5
    go_wp2_with fail
    refine (H1.out _ (HM.out.env HV.out HW.out)).mono ?_; rintro e w0 ⟨rfl, hh⟩
    clear Xc0 Xc1
    have X_0 := hid (HX.out.below hh.out)
    have HW0 := hid (HW.out.trans (hh.out.mono HW.out.size))
    clear hh
    have Xa_0 := hid (X_0.out.below (below_alloc w0 (pc (-x) (-y))))
    have HWa0 := hid (HW0.out.trans ((below_alloc w0 (pc (-x) (-y))).mono HW0.out.size))
    have Q_0 := hid (show Bk _ _ (-x) (-y) from pt_new w0 (-x) (-y))
    obtain ⟨⟨Xc0, Xc1⟩, -⟩ := pt_facts Xa_0.out
    obtain ⟨⟨Qc0, Qc1⟩, -⟩ := pt_facts Q_0.out
    go_wp2_with fail
    refine (H2.out _ (HM.out.env HV.out HWa0.out)).mono ?_; rintro e w1 ⟨rfl, hh⟩
    clear Xc0 Xc1 Qc0 Qc1
    have X_1 := hid (Xa_0.out.below hh.out)
    have Q_1 := hid (Q_0.out.below hh.out)
    have HW1 := hid (HWa0.out.trans (hh.out.mono HWa0.out.size))
    clear hh
    have Xa_1 := hid (X_1.out.below (below_alloc w1 (pc (-y) x)))
    have Qa_1 := hid (Q_1.out.below (below_alloc w1 (pc (-y) x)))
    have HWa1 := hid (HW1.out.trans ((below_alloc w1 (pc (-y) x)).mono HW1.out.size))
    have R_1 := hid (show Bk _ _ (-y) x from pt_new w1 (-y) x)
    obtain ⟨⟨Xc0, Xc1⟩, -⟩ := pt_facts Xa_1.out
    obtain ⟨⟨Qc0, Qc1⟩, -⟩ := pt_facts Qa_1.out
    obtain ⟨⟨Rc0, Rc1⟩, -⟩ := pt_facts R_1.out
    go_wp2_with fail
    refine (HR.out _).mono ?_; rintro e w2 ⟨rfl, hh⟩
    clear Xc0 Xc1 Qc0 Qc1 Rc0 Rc1
    have X_2 := hid (Xa_1.out.below hh.out)
    have Q_2 := hid (Qa_1.out.below hh.out)
    have R_2 := hid (R_1.out.below hh.out)
    have HW2 := hid (HWa1.out.trans (hh.out.mono HWa1.out.size))
    clear hh
    obtain ⟨⟨Xc0, Xc1⟩, -⟩ := pt_facts X_2.out
    obtain ⟨⟨Qc0, Qc1⟩, -⟩ := pt_facts Q_2.out
    obtain ⟨⟨Rc0, Rc1⟩, -⟩ := pt_facts R_2.out
    go_wp2_with fail
    have HWd := hid HW2.out.drew
    have X_d := hid (X_2.out.below (Below.refl _ _).drew)
    have Q_d := hid (Q_2.out.below (Below.refl _ _).drew)
    have R_d := hid (R_2.out.below (Below.refl _ _).drew)
    go_region_law (first
      | (go_simp; go_at_call 10; (with_reducible refine (alive_any HM.out _ (HM.out.env HV.out HWd.out)).mono ?_); rintro e v0 ⟨rfl, hh⟩; have X_v0 := hid (X_d.out.below hh.out); have Q_v0 := hid (Q_d.out.below hh.out); have R_v0 := hid (R_d.out.below hh.out); have HV0 := hid (HWd.out.trans (hh.out.mono HWd.out.size)); clear hh; obtain ⟨⟨Xp0, Xq0⟩, -⟩ := pt_facts X_v0.out; obtain ⟨⟨Qp0, Qq0⟩, -⟩ := pt_facts Q_v0.out; obtain ⟨⟨Rp0, Rq0⟩, -⟩ := pt_facts R_v0.out)
      | (go_simp; go_at_call 12; (with_reducible refine (H3.out _ (HM.out.env HV.out HV0.out)).mono ?_); rintro e v1 ⟨rfl, hh⟩; have X_v1 := hid (X_v0.out.below hh.out); have Q_v1 := hid (Q_v0.out.below hh.out); have R_v1 := hid (R_v0.out.below hh.out); have HV1 := hid (HV0.out.trans (hh.out.mono HV0.out.size)); clear hh; obtain ⟨⟨Xp1, Xq1⟩, -⟩ := pt_facts X_v1.out; obtain ⟨⟨Qp1, Qq1⟩, -⟩ := pt_facts Q_v1.out; obtain ⟨⟨Rp1, Rq1⟩, -⟩ := pt_facts R_v1.out)
      | (go_simp; go_at_call 12; (with_reducible refine (H4.out _ (HM.out.env HV.out HV1.out)).mono ?_); rintro e v2 ⟨rfl, hh⟩; have X_v2 := hid (X_v1.out.below hh.out); have Q_v2 := hid (Q_v1.out.below hh.out); have R_v2 := hid (R_v1.out.below hh.out); have HV2 := hid (HV1.out.trans (hh.out.mono HV1.out.size)); clear hh; obtain ⟨⟨Xp2, Xq2⟩, -⟩ := pt_facts X_v2.out; obtain ⟨⟨Qp2, Qq2⟩, -⟩ := pt_facts Q_v2.out; obtain ⟨⟨Rp2, Rq2⟩, -⟩ := pt_facts R_v2.out))
    all_goals go_wp2_with fail
    all_goals go_ret
    all_goals exact ⟨rfl, HV2.out⟩
  · have h' : rt x y = false := by simpa using h
    rw [h'] at HR
    rw [show mulP x y (-1) 0 = ⟨0, 0, 91⟩ by unfold mulP; rw [h']; rfl] at H1
    rw [show mulP x y 0 1 = ⟨0, 0, 91⟩ by unfold mulP; rw [h']; rfl] at H2
    clear M hV h h'
    obtain ⟨⟨Xc0, Xc1⟩, -⟩ := pt_facts HX.out
    go_enter Tryd.func5, Tryd.ntmps5
    go_wp2_with fail
    refine (H1.out _ (HM.out.env HV.out HW.out)).mono ?_; rintro e w0 ⟨rfl, hh⟩
    clear Xc0 Xc1
    have X_0 := hid (HX.out.below hh.out)
    have HW0 := hid (HW.out.trans (hh.out.mono HW.out.size))
    clear hh
    have Xa_0 := hid (X_0.out.below (below_alloc w0 (pc 0 0)))
    have HWa0 := hid (HW0.out.trans ((below_alloc w0 (pc 0 0)).mono HW0.out.size))
    have Q_0 := hid (show Bk _ _ 0 0 from pt_new w0 0 0)
    obtain ⟨⟨Xc0, Xc1⟩, -⟩ := pt_facts Xa_0.out
    obtain ⟨⟨Qc0, Qc1⟩, -⟩ := pt_facts Q_0.out
    go_wp2_with fail
    refine (H2.out _ (HM.out.env HV.out HWa0.out)).mono ?_; rintro e w1 ⟨rfl, hh⟩
    clear Xc0 Xc1 Qc0 Qc1
    have X_1 := hid (Xa_0.out.below hh.out)
    have Q_1 := hid (Q_0.out.below hh.out)
    have HW1 := hid (HWa0.out.trans (hh.out.mono HWa0.out.size))
    clear hh
    have Xa_1 := hid (X_1.out.below (below_alloc w1 (pc 0 0)))
    have Qa_1 := hid (Q_1.out.below (below_alloc w1 (pc 0 0)))
    have HWa1 := hid (HW1.out.trans ((below_alloc w1 (pc 0 0)).mono HW1.out.size))
    have R_1 := hid (show Bk _ _ 0 0 from pt_new w1 0 0)
    obtain ⟨⟨Xc0, Xc1⟩, -⟩ := pt_facts Xa_1.out
    obtain ⟨⟨Qc0, Qc1⟩, -⟩ := pt_facts Qa_1.out
    obtain ⟨⟨Rc0, Rc1⟩, -⟩ := pt_facts R_1.out
    go_wp2_with fail
    refine (HR.out _).mono ?_; rintro e w2 ⟨rfl, hh⟩
    clear Xc0 Xc1 Qc0 Qc1 Rc0 Rc1
    have X_2 := hid (Xa_1.out.below hh.out)
    have Q_2 := hid (Qa_1.out.below hh.out)
    have R_2 := hid (R_1.out.below hh.out)
    have HW2 := hid (HWa1.out.trans (hh.out.mono HWa1.out.size))
    clear hh
    obtain ⟨⟨Xc0, Xc1⟩, -⟩ := pt_facts X_2.out
    obtain ⟨⟨Qc0, Qc1⟩, -⟩ := pt_facts Q_2.out
    obtain ⟨⟨Rc0, Rc1⟩, -⟩ := pt_facts R_2.out
    go_wp2_with fail
    refine (alive_any HM.out _ (HM.out.env HV.out HW2.out)).mono ?_; rintro e w3 ⟨rfl, hh⟩
    clear Xc0 Xc1 Qc0 Qc1 Rc0 Rc1
    have X_3 := hid (X_2.out.below hh.out)
    have Q_3 := hid (Q_2.out.below hh.out)
    have R_3 := hid (R_2.out.below hh.out)
    have HW3 := hid (HW2.out.trans (hh.out.mono HW2.out.size))
    clear hh
    obtain ⟨⟨Xc0, Xc1⟩, -⟩ := pt_facts X_3.out
    obtain ⟨⟨Qc0, Qc1⟩, -⟩ := pt_facts Q_3.out
    obtain ⟨⟨Rc0, Rc1⟩, -⟩ := pt_facts R_3.out
    go_wp2_with fail
    go_ret
    exact ⟨rfl, HW3.out⟩

end Go.Proofs.YtenncfohifekhabDoor
