/- The laws of products of sums. -/
import Derived.Test.YtenncfohifekhabDoorBks
import Derived.Test.YtenncfohifekhabDoorPLaws
namespace Go.Proofs.YtenncfohifekhabDoor
open Go.RowKit

theorem norm_small (x y : Int) : -9223372036854775808 ≤ normP x y ∧ normP x y ≤ 9223372036854775807 := by
  unfold normP
  by_cases h : rt x y = true
  · rw [if_pos h]
    obtain ⟨a0, a1, b0, b1⟩ := rt_iff.1 h
    have m1 := part_mul a0 a1 a0 a1
    have m2 := part_mul b0 b1 b0 b1
    omega
  · rw [if_neg h]; omega
set_option maxHeartbeats 16000000 in
set_option maxRecDepth 100000 in
theorem laws_any {V : World → Prop} (M : MethP V) (a1 a2 b1 b2 c1 c2 : Int) (w : World) (hV : V w) :
    Calls Tryd.prog 3 #[pv a1 a2, pv b1 b2, pv c1 c2] w fun e w' => e = .returned (.bool true) ∧ Below w.heap.size w w' := by
  have HM := hid M
  have HV := hid hV
  have HA3 := hid (al3 w (pc a1 a2) (pc b1 b2) (pc c1 c2))
  have HA := hid (show Bk _ w.heap.size a1 a2 from HA3.out.2.1)
  have HB := hid (show Bk _ (w.heap.size + 1) b1 b2 from HA3.out.2.2.1)
  have HC := hid (show Bk _ (w.heap.size + 2) c1 c2 from HA3.out.2.2.2.1)
  have HW := hid HA3.out.1
  have HT := hid fun W h => HM.out.times a1 a2 b1 b2 W h
  have HT2 := hid fun W h => HM.out.times b1 b2 a1 a2 W h
  rw [mulP_comm b1 b2] at HT2
  have HAd := hid fun W h => HM.out.add b1 b2 c1 c2 W h
  have HAd2 := hid fun W h => HM.out.add c1 c2 b1 b2 W h
  rw [addP_comm c1 c2] at HAd2
  have HAc := hid fun W h => HM.out.times a1 a2 c1 c2 W h
  have HSu := hid fun W h => HM.out.add (mulP a1 a2 b1 b2).x (mulP a1 a2 b1 b2).y (mulP a1 a2 c1 c2).x (mulP a1 a2 c1 c2).y W h
  have HAs := hid fun W h => HM.out.times a1 a2 (addP b1 b2 c1 c2).x (addP b1 b2 c1 c2).y W h
  have HN1 := hid fun W h => HM.out.norm (mulP a1 a2 b1 b2).x (mulP a1 a2 b1 b2).y W h
  have HN2 := hid fun W h => HM.out.norm a1 a2 W h
  have HN3 := hid fun W h => HM.out.norm b1 b2 W h
  have HNt := hid fun h => norm_times (a := a1) (b := a2) (c := b1) (d := b2) h
  have HDi := hid fun h1 h2 h3 h4 h5 => times_sum (a := a1) (b := a2) (c := b1) (d := b2) (e := c1) (f := c2) h1 h2 h3 h4 h5
  have HNb := hid (norm_small (mulP a1 a2 b1 b2).x (mulP a1 a2 b1 b2).y)
  generalize mulP a1 a2 (addP b1 b2 c1 c2).x (addP b1 b2 c1 c2).y = TM at *
  generalize addP (mulP a1 a2 b1 b2).x (mulP a1 a2 b1 b2).y (mulP a1 a2 c1 c2).x (mulP a1 a2 c1 c2).y = TU at *
  generalize mulP a1 a2 c1 c2 = TC at *
  generalize addP b1 b2 c1 c2 = TS at *
  generalize mulP a1 a2 b1 b2 = T at *
  generalize normP T.x T.y = N1 at *
  generalize normP a1 a2 = N2 at *
  generalize normP b1 b2 = N3 at *
  obtain ⟨mx, my, me⟩ := TM
  obtain ⟨ux, uy, ue⟩ := TU
  obtain ⟨cx, cy, ce⟩ := TC
  obtain ⟨sx, sy, se⟩ := TS
  obtain ⟨tx, ty, te⟩ := T
  simp only at HSu HAs HN1 HNt HDi
  have HDj : Hid (te = 0 → se = 0 → ce = 0 → ue = 0 → me = 0 → mx = ux ∧ my = uy) := fun h1 h2 h3 h4 h5 => by
    have := HDi.out h1 h2 h3 h4 h5
    injection this with e1 e2
    exact ⟨e1, e2⟩
  clear HDi M hV
  obtain ⟨⟨Ac0, Ac1⟩, -⟩ := pt_facts HA.out
  obtain ⟨⟨Bc0, Bc1⟩, -⟩ := pt_facts HB.out
  obtain ⟨⟨Cc0, Cc1⟩, -⟩ := pt_facts HC.out
  by_cases hte : te = 0
  · subst hte
    have HDi : Hid (se = 0 → ce = 0 → ue = 0 → me = 0 → mx = ux ∧ my = uy) := fun h2 h3 h4 h5 => HDj.out rfl h2 h3 h4 h5
    have hNN : N1 = N2 * N3 := HNt.out rfl
    have hwr : IntKind.i64.wrap (N2 * N3) = N1 := by rw [← hNN, IntKind.wrap_i64]; have := HNb.out; omega
    clear HDj HNt hNN
    go_enter Tryd.func3, Tryd.ntmps3
    go_wp2_with fail
    refine (HT.out _ (HM.out.env HV.out HW.out)).mono ?_; rintro e w0 ⟨rfl, hh⟩
    clear Ac0 Ac1 Bc0 Bc1 Cc0 Cc1
    have A_0 := hid (HA.out.below hh.out)
    have B_0 := hid (HB.out.below hh.out)
    have C_0 := hid (HC.out.below hh.out)
    have HW0 := hid (HW.out.trans (hh.out.mono HW.out.size))
    clear hh
    have Aa_0 := hid (A_0.out.below (below_alloc w0 (pc tx ty)))
    have Ba_0 := hid (B_0.out.below (below_alloc w0 (pc tx ty)))
    have Ca_0 := hid (C_0.out.below (below_alloc w0 (pc tx ty)))
    have HWa0 := hid (HW0.out.trans ((below_alloc w0 (pc tx ty)).mono HW0.out.size))
    have T_0 := hid (show Bk _ _ tx ty from pt_new w0 tx ty)
    obtain ⟨⟨Ac0, Ac1⟩, -⟩ := pt_facts Aa_0.out
    obtain ⟨⟨Bc0, Bc1⟩, -⟩ := pt_facts Ba_0.out
    obtain ⟨⟨Cc0, Cc1⟩, -⟩ := pt_facts Ca_0.out
    obtain ⟨⟨Tc0, Tc1⟩, -⟩ := pt_facts T_0.out
    go_wp2_with fail
    refine (HT2.out _ (HM.out.env HV.out HWa0.out)).mono ?_; rintro e w1 ⟨rfl, hh⟩
    clear Ac0 Ac1 Bc0 Bc1 Cc0 Cc1 Tc0 Tc1
    have A_1 := hid (Aa_0.out.below hh.out)
    have B_1 := hid (Ba_0.out.below hh.out)
    have C_1 := hid (Ca_0.out.below hh.out)
    have T_1 := hid (T_0.out.below hh.out)
    have HW1 := hid (HWa0.out.trans (hh.out.mono HWa0.out.size))
    clear hh
    have Aa_1 := hid (A_1.out.below (below_alloc w1 (pc tx ty)))
    have Ba_1 := hid (B_1.out.below (below_alloc w1 (pc tx ty)))
    have Ca_1 := hid (C_1.out.below (below_alloc w1 (pc tx ty)))
    have Ta_1 := hid (T_1.out.below (below_alloc w1 (pc tx ty)))
    have HWa1 := hid (HW1.out.trans ((below_alloc w1 (pc tx ty)).mono HW1.out.size))
    have P_1 := hid (show Bk _ _ tx ty from pt_new w1 tx ty)
    obtain ⟨⟨Ac0, Ac1⟩, -⟩ := pt_facts Aa_1.out
    obtain ⟨⟨Bc0, Bc1⟩, -⟩ := pt_facts Ba_1.out
    obtain ⟨⟨Cc0, Cc1⟩, -⟩ := pt_facts Ca_1.out
    obtain ⟨⟨Tc0, Tc1⟩, -⟩ := pt_facts Ta_1.out
    obtain ⟨⟨Pc0, Pc1⟩, -⟩ := pt_facts P_1.out
    go_wp2_with fail
    have HWd := hid HWa1.out.drew
    have A_d := hid (Aa_1.out.below (Below.refl _ _).drew)
    have B_d := hid (Ba_1.out.below (Below.refl _ _).drew)
    have C_d := hid (Ca_1.out.below (Below.refl _ _).drew)
    have T_d := hid (Ta_1.out.below (Below.refl _ _).drew)
    have P_d := hid (P_1.out.below (Below.refl _ _).drew)
    go_region_law (first
      | (go_simp; go_at_call 8; (with_reducible refine (HN1.out _ (HM.out.env HV.out HWd.out)).mono ?_); rintro e v0 ⟨rfl, hh⟩; have A_v0 := hid (A_d.out.below hh.out); have B_v0 := hid (B_d.out.below hh.out); have C_v0 := hid (C_d.out.below hh.out); have T_v0 := hid (T_d.out.below hh.out); have P_v0 := hid (P_d.out.below hh.out); have HV0 := hid (HWd.out.trans (hh.out.mono HWd.out.size)); clear hh; obtain ⟨⟨Ap0, Aq0⟩, -⟩ := pt_facts A_v0.out; obtain ⟨⟨Bp0, Bq0⟩, -⟩ := pt_facts B_v0.out; obtain ⟨⟨Cp0, Cq0⟩, -⟩ := pt_facts C_v0.out; obtain ⟨⟨Tp0, Tq0⟩, -⟩ := pt_facts T_v0.out; obtain ⟨⟨Pp0, Pq0⟩, -⟩ := pt_facts P_v0.out)
      | (go_simp; go_at_call 8; (with_reducible refine (HN2.out _ (HM.out.env HV.out HV0.out)).mono ?_); rintro e v1 ⟨rfl, hh⟩; have A_v1 := hid (A_v0.out.below hh.out); have B_v1 := hid (B_v0.out.below hh.out); have C_v1 := hid (C_v0.out.below hh.out); have T_v1 := hid (T_v0.out.below hh.out); have P_v1 := hid (P_v0.out.below hh.out); have HV1 := hid (HV0.out.trans (hh.out.mono HV0.out.size)); clear hh; obtain ⟨⟨Ap1, Aq1⟩, -⟩ := pt_facts A_v1.out; obtain ⟨⟨Bp1, Bq1⟩, -⟩ := pt_facts B_v1.out; obtain ⟨⟨Cp1, Cq1⟩, -⟩ := pt_facts C_v1.out; obtain ⟨⟨Tp1, Tq1⟩, -⟩ := pt_facts T_v1.out; obtain ⟨⟨Pp1, Pq1⟩, -⟩ := pt_facts P_v1.out)
      | (go_simp; go_at_call 8; (with_reducible refine (HN3.out _ (HM.out.env HV.out HV1.out)).mono ?_); rintro e v2 ⟨rfl, hh⟩; have A_v2 := hid (A_v1.out.below hh.out); have B_v2 := hid (B_v1.out.below hh.out); have C_v2 := hid (C_v1.out.below hh.out); have T_v2 := hid (T_v1.out.below hh.out); have P_v2 := hid (P_v1.out.below hh.out); have HV2 := hid (HV1.out.trans (hh.out.mono HV1.out.size)); clear hh; obtain ⟨⟨Ap2, Aq2⟩, -⟩ := pt_facts A_v2.out; obtain ⟨⟨Bp2, Bq2⟩, -⟩ := pt_facts B_v2.out; obtain ⟨⟨Cp2, Cq2⟩, -⟩ := pt_facts C_v2.out; obtain ⟨⟨Tp2, Tq2⟩, -⟩ := pt_facts T_v2.out; obtain ⟨⟨Pp2, Pq2⟩, -⟩ := pt_facts P_v2.out))
    all_goals
      clear Ac0 Ac1 Ap0 Aq0 Ap1 Aq1 Ap2 Aq2 Bc0 Bc1 Bp0 Bq0 Bp1 Bq1 Bp2 Bq2 Cc0 Cc1 Cp0 Cq0 Cp1 Cq1 Cp2 Cq2 Tc0 Tc1 Tp0 Tq0 Tp1 Tq1 Tp2 Tq2 Pc0 Pc1 Pp0 Pq0 Pp1 Pq1 Pp2 Pq2
      obtain ⟨⟨Ac0, Ac1⟩, -⟩ := pt_facts A_v2.out
      obtain ⟨⟨Bc0, Bc1⟩, -⟩ := pt_facts B_v2.out
      obtain ⟨⟨Cc0, Cc1⟩, -⟩ := pt_facts C_v2.out
      obtain ⟨⟨Tc0, Tc1⟩, -⟩ := pt_facts T_v2.out
      obtain ⟨⟨Pc0, Pc1⟩, -⟩ := pt_facts P_v2.out
      go_wp2_with fail
      refine (HAd.out _ (HM.out.env HV.out HV2.out)).mono ?_; rintro e w10 ⟨rfl, hh⟩
      clear Ac0 Ac1 Bc0 Bc1 Cc0 Cc1 Tc0 Tc1 Pc0 Pc1
      have A_10 := hid (A_v2.out.below hh.out)
      have B_10 := hid (B_v2.out.below hh.out)
      have C_10 := hid (C_v2.out.below hh.out)
      have T_10 := hid (T_v2.out.below hh.out)
      have P_10 := hid (P_v2.out.below hh.out)
      have HW10 := hid (HV2.out.trans (hh.out.mono HV2.out.size))
      clear hh
      have Aa_10 := hid (A_10.out.below (below_alloc w10 (pc sx sy)))
      have Ba_10 := hid (B_10.out.below (below_alloc w10 (pc sx sy)))
      have Ca_10 := hid (C_10.out.below (below_alloc w10 (pc sx sy)))
      have Ta_10 := hid (T_10.out.below (below_alloc w10 (pc sx sy)))
      have Pa_10 := hid (P_10.out.below (below_alloc w10 (pc sx sy)))
      have HWa10 := hid (HW10.out.trans ((below_alloc w10 (pc sx sy)).mono HW10.out.size))
      have S_10 := hid (show Bk _ _ sx sy from pt_new w10 sx sy)
      obtain ⟨⟨Ac0, Ac1⟩, -⟩ := pt_facts Aa_10.out
      obtain ⟨⟨Bc0, Bc1⟩, -⟩ := pt_facts Ba_10.out
      obtain ⟨⟨Cc0, Cc1⟩, -⟩ := pt_facts Ca_10.out
      obtain ⟨⟨Tc0, Tc1⟩, -⟩ := pt_facts Ta_10.out
      obtain ⟨⟨Pc0, Pc1⟩, -⟩ := pt_facts Pa_10.out
      obtain ⟨⟨Sc0, Sc1⟩, -⟩ := pt_facts S_10.out
      go_wp2_with fail
      refine (HAd2.out _ (HM.out.env HV.out HWa10.out)).mono ?_; rintro e w11 ⟨rfl, hh⟩
      clear Ac0 Ac1 Bc0 Bc1 Cc0 Cc1 Tc0 Tc1 Pc0 Pc1 Sc0 Sc1
      have A_11 := hid (Aa_10.out.below hh.out)
      have B_11 := hid (Ba_10.out.below hh.out)
      have C_11 := hid (Ca_10.out.below hh.out)
      have T_11 := hid (Ta_10.out.below hh.out)
      have P_11 := hid (Pa_10.out.below hh.out)
      have S_11 := hid (S_10.out.below hh.out)
      have HW11 := hid (HWa10.out.trans (hh.out.mono HWa10.out.size))
      clear hh
      have Aa_11 := hid (A_11.out.below (below_alloc w11 (pc sx sy)))
      have Ba_11 := hid (B_11.out.below (below_alloc w11 (pc sx sy)))
      have Ca_11 := hid (C_11.out.below (below_alloc w11 (pc sx sy)))
      have Ta_11 := hid (T_11.out.below (below_alloc w11 (pc sx sy)))
      have Pa_11 := hid (P_11.out.below (below_alloc w11 (pc sx sy)))
      have Sa_11 := hid (S_11.out.below (below_alloc w11 (pc sx sy)))
      have HWa11 := hid (HW11.out.trans ((below_alloc w11 (pc sx sy)).mono HW11.out.size))
      have R_11 := hid (show Bk _ _ sx sy from pt_new w11 sx sy)
      obtain ⟨⟨Ac0, Ac1⟩, -⟩ := pt_facts Aa_11.out
      obtain ⟨⟨Bc0, Bc1⟩, -⟩ := pt_facts Ba_11.out
      obtain ⟨⟨Cc0, Cc1⟩, -⟩ := pt_facts Ca_11.out
      obtain ⟨⟨Tc0, Tc1⟩, -⟩ := pt_facts Ta_11.out
      obtain ⟨⟨Pc0, Pc1⟩, -⟩ := pt_facts Pa_11.out
      obtain ⟨⟨Sc0, Sc1⟩, -⟩ := pt_facts Sa_11.out
      obtain ⟨⟨Rc0, Rc1⟩, -⟩ := pt_facts R_11.out
      go_wp2_with fail
      refine (HAc.out _ (HM.out.env HV.out HWa11.out)).mono ?_; rintro e w12 ⟨rfl, hh⟩
      clear Ac0 Ac1 Bc0 Bc1 Cc0 Cc1 Tc0 Tc1 Pc0 Pc1 Sc0 Sc1 Rc0 Rc1
      have A_12 := hid (Aa_11.out.below hh.out)
      have B_12 := hid (Ba_11.out.below hh.out)
      have C_12 := hid (Ca_11.out.below hh.out)
      have T_12 := hid (Ta_11.out.below hh.out)
      have P_12 := hid (Pa_11.out.below hh.out)
      have S_12 := hid (Sa_11.out.below hh.out)
      have R_12 := hid (R_11.out.below hh.out)
      have HW12 := hid (HWa11.out.trans (hh.out.mono HWa11.out.size))
      clear hh
      have Aa_12 := hid (A_12.out.below (below_alloc w12 (pc cx cy)))
      have Ba_12 := hid (B_12.out.below (below_alloc w12 (pc cx cy)))
      have Ca_12 := hid (C_12.out.below (below_alloc w12 (pc cx cy)))
      have Ta_12 := hid (T_12.out.below (below_alloc w12 (pc cx cy)))
      have Pa_12 := hid (P_12.out.below (below_alloc w12 (pc cx cy)))
      have Sa_12 := hid (S_12.out.below (below_alloc w12 (pc cx cy)))
      have Ra_12 := hid (R_12.out.below (below_alloc w12 (pc cx cy)))
      have HWa12 := hid (HW12.out.trans ((below_alloc w12 (pc cx cy)).mono HW12.out.size))
      have E_12 := hid (show Bk _ _ cx cy from pt_new w12 cx cy)
      obtain ⟨⟨Ac0, Ac1⟩, -⟩ := pt_facts Aa_12.out
      obtain ⟨⟨Bc0, Bc1⟩, -⟩ := pt_facts Ba_12.out
      obtain ⟨⟨Cc0, Cc1⟩, -⟩ := pt_facts Ca_12.out
      obtain ⟨⟨Tc0, Tc1⟩, -⟩ := pt_facts Ta_12.out
      obtain ⟨⟨Pc0, Pc1⟩, -⟩ := pt_facts Pa_12.out
      obtain ⟨⟨Sc0, Sc1⟩, -⟩ := pt_facts Sa_12.out
      obtain ⟨⟨Rc0, Rc1⟩, -⟩ := pt_facts Ra_12.out
      obtain ⟨⟨Ec0, Ec1⟩, -⟩ := pt_facts E_12.out
      go_wp2_with fail
      refine (HSu.out _ (HM.out.env HV.out HWa12.out)).mono ?_; rintro e w13 ⟨rfl, hh⟩
      clear Ac0 Ac1 Bc0 Bc1 Cc0 Cc1 Tc0 Tc1 Pc0 Pc1 Sc0 Sc1 Rc0 Rc1 Ec0 Ec1
      have A_13 := hid (Aa_12.out.below hh.out)
      have B_13 := hid (Ba_12.out.below hh.out)
      have C_13 := hid (Ca_12.out.below hh.out)
      have T_13 := hid (Ta_12.out.below hh.out)
      have P_13 := hid (Pa_12.out.below hh.out)
      have S_13 := hid (Sa_12.out.below hh.out)
      have R_13 := hid (Ra_12.out.below hh.out)
      have E_13 := hid (E_12.out.below hh.out)
      have HW13 := hid (HWa12.out.trans (hh.out.mono HWa12.out.size))
      clear hh
      have Aa_13 := hid (A_13.out.below (below_alloc w13 (pc ux uy)))
      have Ba_13 := hid (B_13.out.below (below_alloc w13 (pc ux uy)))
      have Ca_13 := hid (C_13.out.below (below_alloc w13 (pc ux uy)))
      have Ta_13 := hid (T_13.out.below (below_alloc w13 (pc ux uy)))
      have Pa_13 := hid (P_13.out.below (below_alloc w13 (pc ux uy)))
      have Sa_13 := hid (S_13.out.below (below_alloc w13 (pc ux uy)))
      have Ra_13 := hid (R_13.out.below (below_alloc w13 (pc ux uy)))
      have Ea_13 := hid (E_13.out.below (below_alloc w13 (pc ux uy)))
      have HWa13 := hid (HW13.out.trans ((below_alloc w13 (pc ux uy)).mono HW13.out.size))
      have U_13 := hid (show Bk _ _ ux uy from pt_new w13 ux uy)
      obtain ⟨⟨Ac0, Ac1⟩, -⟩ := pt_facts Aa_13.out
      obtain ⟨⟨Bc0, Bc1⟩, -⟩ := pt_facts Ba_13.out
      obtain ⟨⟨Cc0, Cc1⟩, -⟩ := pt_facts Ca_13.out
      obtain ⟨⟨Tc0, Tc1⟩, -⟩ := pt_facts Ta_13.out
      obtain ⟨⟨Pc0, Pc1⟩, -⟩ := pt_facts Pa_13.out
      obtain ⟨⟨Sc0, Sc1⟩, -⟩ := pt_facts Sa_13.out
      obtain ⟨⟨Rc0, Rc1⟩, -⟩ := pt_facts Ra_13.out
      obtain ⟨⟨Ec0, Ec1⟩, -⟩ := pt_facts Ea_13.out
      obtain ⟨⟨Uc0, Uc1⟩, -⟩ := pt_facts U_13.out
      go_wp2_with fail
      refine (HAs.out _ (HM.out.env HV.out HWa13.out)).mono ?_; rintro e w14 ⟨rfl, hh⟩
      clear Ac0 Ac1 Bc0 Bc1 Cc0 Cc1 Tc0 Tc1 Pc0 Pc1 Sc0 Sc1 Rc0 Rc1 Ec0 Ec1 Uc0 Uc1
      have A_14 := hid (Aa_13.out.below hh.out)
      have B_14 := hid (Ba_13.out.below hh.out)
      have C_14 := hid (Ca_13.out.below hh.out)
      have T_14 := hid (Ta_13.out.below hh.out)
      have P_14 := hid (Pa_13.out.below hh.out)
      have S_14 := hid (Sa_13.out.below hh.out)
      have R_14 := hid (Ra_13.out.below hh.out)
      have E_14 := hid (Ea_13.out.below hh.out)
      have U_14 := hid (U_13.out.below hh.out)
      have HW14 := hid (HWa13.out.trans (hh.out.mono HWa13.out.size))
      clear hh
      have Aa_14 := hid (A_14.out.below (below_alloc w14 (pc mx my)))
      have Ba_14 := hid (B_14.out.below (below_alloc w14 (pc mx my)))
      have Ca_14 := hid (C_14.out.below (below_alloc w14 (pc mx my)))
      have Ta_14 := hid (T_14.out.below (below_alloc w14 (pc mx my)))
      have Pa_14 := hid (P_14.out.below (below_alloc w14 (pc mx my)))
      have Sa_14 := hid (S_14.out.below (below_alloc w14 (pc mx my)))
      have Ra_14 := hid (R_14.out.below (below_alloc w14 (pc mx my)))
      have Ea_14 := hid (E_14.out.below (below_alloc w14 (pc mx my)))
      have Ua_14 := hid (U_14.out.below (below_alloc w14 (pc mx my)))
      have HWa14 := hid (HW14.out.trans ((below_alloc w14 (pc mx my)).mono HW14.out.size))
      have M_14 := hid (show Bk _ _ mx my from pt_new w14 mx my)
      obtain ⟨⟨Ac0, Ac1⟩, -⟩ := pt_facts Aa_14.out
      obtain ⟨⟨Bc0, Bc1⟩, -⟩ := pt_facts Ba_14.out
      obtain ⟨⟨Cc0, Cc1⟩, -⟩ := pt_facts Ca_14.out
      obtain ⟨⟨Tc0, Tc1⟩, -⟩ := pt_facts Ta_14.out
      obtain ⟨⟨Pc0, Pc1⟩, -⟩ := pt_facts Pa_14.out
      obtain ⟨⟨Sc0, Sc1⟩, -⟩ := pt_facts Sa_14.out
      obtain ⟨⟨Rc0, Rc1⟩, -⟩ := pt_facts Ra_14.out
      obtain ⟨⟨Ec0, Ec1⟩, -⟩ := pt_facts Ea_14.out
      obtain ⟨⟨Uc0, Uc1⟩, -⟩ := pt_facts Ua_14.out
      obtain ⟨⟨Mc0, Mc1⟩, -⟩ := pt_facts M_14.out
      by_cases hse : se = 0
      · subst hse
        by_cases hce : ce = 0
        · subst hce
          by_cases hue : ue = 0
          · subst hue
            by_cases hme : me = 0
            · subst hme
              obtain ⟨rfl, rfl⟩ := HDi.out rfl rfl rfl rfl
              go_wp2_with fail
              refine (alive_any HM.out _ (HM.out.env HV.out HWa14.out)).mono ?_; rintro e w15 ⟨rfl, hh⟩
              clear Ac0 Ac1 Bc0 Bc1 Cc0 Cc1 Tc0 Tc1 Pc0 Pc1 Sc0 Sc1 Rc0 Rc1 Ec0 Ec1 Uc0 Uc1 Mc0 Mc1
              have A_15 := hid (Aa_14.out.below hh.out)
              have B_15 := hid (Ba_14.out.below hh.out)
              have C_15 := hid (Ca_14.out.below hh.out)
              have T_15 := hid (Ta_14.out.below hh.out)
              have P_15 := hid (Pa_14.out.below hh.out)
              have S_15 := hid (Sa_14.out.below hh.out)
              have R_15 := hid (Ra_14.out.below hh.out)
              have E_15 := hid (Ea_14.out.below hh.out)
              have U_15 := hid (Ua_14.out.below hh.out)
              have M_15 := hid (M_14.out.below hh.out)
              have HW15 := hid (HWa14.out.trans (hh.out.mono HWa14.out.size))
              clear hh
              obtain ⟨⟨Ac0, Ac1⟩, -⟩ := pt_facts A_15.out
              obtain ⟨⟨Bc0, Bc1⟩, -⟩ := pt_facts B_15.out
              obtain ⟨⟨Cc0, Cc1⟩, -⟩ := pt_facts C_15.out
              obtain ⟨⟨Tc0, Tc1⟩, -⟩ := pt_facts T_15.out
              obtain ⟨⟨Pc0, Pc1⟩, -⟩ := pt_facts P_15.out
              obtain ⟨⟨Sc0, Sc1⟩, -⟩ := pt_facts S_15.out
              obtain ⟨⟨Rc0, Rc1⟩, -⟩ := pt_facts R_15.out
              obtain ⟨⟨Ec0, Ec1⟩, -⟩ := pt_facts E_15.out
              obtain ⟨⟨Uc0, Uc1⟩, -⟩ := pt_facts U_15.out
              obtain ⟨⟨Mc0, Mc1⟩, -⟩ := pt_facts M_15.out
              go_wp2_with fail
              go_ret
              exact ⟨rfl, HW15.out⟩
            · have g1 : (me == 0) = false := beq_eq_false_iff_ne.2 hme
              have g2 : (me != 0) = true := bne_iff_ne.2 hme
              go_wp2_with fail
              refine (alive_any HM.out _ (HM.out.env HV.out HWa14.out)).mono ?_; rintro e w15 ⟨rfl, hh⟩
              clear Ac0 Ac1 Bc0 Bc1 Cc0 Cc1 Tc0 Tc1 Pc0 Pc1 Sc0 Sc1 Rc0 Rc1 Ec0 Ec1 Uc0 Uc1 Mc0 Mc1
              have A_15 := hid (Aa_14.out.below hh.out)
              have B_15 := hid (Ba_14.out.below hh.out)
              have C_15 := hid (Ca_14.out.below hh.out)
              have T_15 := hid (Ta_14.out.below hh.out)
              have P_15 := hid (Pa_14.out.below hh.out)
              have S_15 := hid (Sa_14.out.below hh.out)
              have R_15 := hid (Ra_14.out.below hh.out)
              have E_15 := hid (Ea_14.out.below hh.out)
              have U_15 := hid (Ua_14.out.below hh.out)
              have M_15 := hid (M_14.out.below hh.out)
              have HW15 := hid (HWa14.out.trans (hh.out.mono HWa14.out.size))
              clear hh
              obtain ⟨⟨Ac0, Ac1⟩, -⟩ := pt_facts A_15.out
              obtain ⟨⟨Bc0, Bc1⟩, -⟩ := pt_facts B_15.out
              obtain ⟨⟨Cc0, Cc1⟩, -⟩ := pt_facts C_15.out
              obtain ⟨⟨Tc0, Tc1⟩, -⟩ := pt_facts T_15.out
              obtain ⟨⟨Pc0, Pc1⟩, -⟩ := pt_facts P_15.out
              obtain ⟨⟨Sc0, Sc1⟩, -⟩ := pt_facts S_15.out
              obtain ⟨⟨Rc0, Rc1⟩, -⟩ := pt_facts R_15.out
              obtain ⟨⟨Ec0, Ec1⟩, -⟩ := pt_facts E_15.out
              obtain ⟨⟨Uc0, Uc1⟩, -⟩ := pt_facts U_15.out
              obtain ⟨⟨Mc0, Mc1⟩, -⟩ := pt_facts M_15.out
              go_wp2_with fail
              go_ret
              exact ⟨rfl, HW15.out⟩
          · have g1 : (ue == 0) = false := beq_eq_false_iff_ne.2 hue
            have g2 : (ue != 0) = true := bne_iff_ne.2 hue
            go_wp2_with fail
            refine (alive_any HM.out _ (HM.out.env HV.out HWa14.out)).mono ?_; rintro e w15 ⟨rfl, hh⟩
            clear Ac0 Ac1 Bc0 Bc1 Cc0 Cc1 Tc0 Tc1 Pc0 Pc1 Sc0 Sc1 Rc0 Rc1 Ec0 Ec1 Uc0 Uc1 Mc0 Mc1
            have A_15 := hid (Aa_14.out.below hh.out)
            have B_15 := hid (Ba_14.out.below hh.out)
            have C_15 := hid (Ca_14.out.below hh.out)
            have T_15 := hid (Ta_14.out.below hh.out)
            have P_15 := hid (Pa_14.out.below hh.out)
            have S_15 := hid (Sa_14.out.below hh.out)
            have R_15 := hid (Ra_14.out.below hh.out)
            have E_15 := hid (Ea_14.out.below hh.out)
            have U_15 := hid (Ua_14.out.below hh.out)
            have M_15 := hid (M_14.out.below hh.out)
            have HW15 := hid (HWa14.out.trans (hh.out.mono HWa14.out.size))
            clear hh
            obtain ⟨⟨Ac0, Ac1⟩, -⟩ := pt_facts A_15.out
            obtain ⟨⟨Bc0, Bc1⟩, -⟩ := pt_facts B_15.out
            obtain ⟨⟨Cc0, Cc1⟩, -⟩ := pt_facts C_15.out
            obtain ⟨⟨Tc0, Tc1⟩, -⟩ := pt_facts T_15.out
            obtain ⟨⟨Pc0, Pc1⟩, -⟩ := pt_facts P_15.out
            obtain ⟨⟨Sc0, Sc1⟩, -⟩ := pt_facts S_15.out
            obtain ⟨⟨Rc0, Rc1⟩, -⟩ := pt_facts R_15.out
            obtain ⟨⟨Ec0, Ec1⟩, -⟩ := pt_facts E_15.out
            obtain ⟨⟨Uc0, Uc1⟩, -⟩ := pt_facts U_15.out
            obtain ⟨⟨Mc0, Mc1⟩, -⟩ := pt_facts M_15.out
            go_wp2_with fail
            go_ret
            exact ⟨rfl, HW15.out⟩
        · have g1 : (ce == 0) = false := beq_eq_false_iff_ne.2 hce
          have g2 : (ce != 0) = true := bne_iff_ne.2 hce
          go_wp2_with fail
          refine (alive_any HM.out _ (HM.out.env HV.out HWa14.out)).mono ?_; rintro e w15 ⟨rfl, hh⟩
          clear Ac0 Ac1 Bc0 Bc1 Cc0 Cc1 Tc0 Tc1 Pc0 Pc1 Sc0 Sc1 Rc0 Rc1 Ec0 Ec1 Uc0 Uc1 Mc0 Mc1
          have A_15 := hid (Aa_14.out.below hh.out)
          have B_15 := hid (Ba_14.out.below hh.out)
          have C_15 := hid (Ca_14.out.below hh.out)
          have T_15 := hid (Ta_14.out.below hh.out)
          have P_15 := hid (Pa_14.out.below hh.out)
          have S_15 := hid (Sa_14.out.below hh.out)
          have R_15 := hid (Ra_14.out.below hh.out)
          have E_15 := hid (Ea_14.out.below hh.out)
          have U_15 := hid (Ua_14.out.below hh.out)
          have M_15 := hid (M_14.out.below hh.out)
          have HW15 := hid (HWa14.out.trans (hh.out.mono HWa14.out.size))
          clear hh
          obtain ⟨⟨Ac0, Ac1⟩, -⟩ := pt_facts A_15.out
          obtain ⟨⟨Bc0, Bc1⟩, -⟩ := pt_facts B_15.out
          obtain ⟨⟨Cc0, Cc1⟩, -⟩ := pt_facts C_15.out
          obtain ⟨⟨Tc0, Tc1⟩, -⟩ := pt_facts T_15.out
          obtain ⟨⟨Pc0, Pc1⟩, -⟩ := pt_facts P_15.out
          obtain ⟨⟨Sc0, Sc1⟩, -⟩ := pt_facts S_15.out
          obtain ⟨⟨Rc0, Rc1⟩, -⟩ := pt_facts R_15.out
          obtain ⟨⟨Ec0, Ec1⟩, -⟩ := pt_facts E_15.out
          obtain ⟨⟨Uc0, Uc1⟩, -⟩ := pt_facts U_15.out
          obtain ⟨⟨Mc0, Mc1⟩, -⟩ := pt_facts M_15.out
          go_wp2_with fail
          go_ret
          exact ⟨rfl, HW15.out⟩
      · have g1 : (se == 0) = false := beq_eq_false_iff_ne.2 hse
        have g2 : (se != 0) = true := bne_iff_ne.2 hse
        go_wp2_with fail
        refine (alive_any HM.out _ (HM.out.env HV.out HWa14.out)).mono ?_; rintro e w15 ⟨rfl, hh⟩
        clear Ac0 Ac1 Bc0 Bc1 Cc0 Cc1 Tc0 Tc1 Pc0 Pc1 Sc0 Sc1 Rc0 Rc1 Ec0 Ec1 Uc0 Uc1 Mc0 Mc1
        have A_15 := hid (Aa_14.out.below hh.out)
        have B_15 := hid (Ba_14.out.below hh.out)
        have C_15 := hid (Ca_14.out.below hh.out)
        have T_15 := hid (Ta_14.out.below hh.out)
        have P_15 := hid (Pa_14.out.below hh.out)
        have S_15 := hid (Sa_14.out.below hh.out)
        have R_15 := hid (Ra_14.out.below hh.out)
        have E_15 := hid (Ea_14.out.below hh.out)
        have U_15 := hid (Ua_14.out.below hh.out)
        have M_15 := hid (M_14.out.below hh.out)
        have HW15 := hid (HWa14.out.trans (hh.out.mono HWa14.out.size))
        clear hh
        obtain ⟨⟨Ac0, Ac1⟩, -⟩ := pt_facts A_15.out
        obtain ⟨⟨Bc0, Bc1⟩, -⟩ := pt_facts B_15.out
        obtain ⟨⟨Cc0, Cc1⟩, -⟩ := pt_facts C_15.out
        obtain ⟨⟨Tc0, Tc1⟩, -⟩ := pt_facts T_15.out
        obtain ⟨⟨Pc0, Pc1⟩, -⟩ := pt_facts P_15.out
        obtain ⟨⟨Sc0, Sc1⟩, -⟩ := pt_facts S_15.out
        obtain ⟨⟨Rc0, Rc1⟩, -⟩ := pt_facts R_15.out
        obtain ⟨⟨Ec0, Ec1⟩, -⟩ := pt_facts E_15.out
        obtain ⟨⟨Uc0, Uc1⟩, -⟩ := pt_facts U_15.out
        obtain ⟨⟨Mc0, Mc1⟩, -⟩ := pt_facts M_15.out
        go_wp2_with fail
        go_ret
        exact ⟨rfl, HW15.out⟩
  · have g1 : (te == 0) = false := beq_eq_false_iff_ne.2 hte
    have g2 : (te != 0) = true := bne_iff_ne.2 hte
    clear HDj HNt
    go_enter Tryd.func3, Tryd.ntmps3
    go_wp2_with fail
    refine (HT.out _ (HM.out.env HV.out HW.out)).mono ?_; rintro e w0 ⟨rfl, hh⟩
    clear Ac0 Ac1 Bc0 Bc1 Cc0 Cc1
    have A_0 := hid (HA.out.below hh.out)
    have B_0 := hid (HB.out.below hh.out)
    have C_0 := hid (HC.out.below hh.out)
    have HW0 := hid (HW.out.trans (hh.out.mono HW.out.size))
    clear hh
    have Aa_0 := hid (A_0.out.below (below_alloc w0 (pc tx ty)))
    have Ba_0 := hid (B_0.out.below (below_alloc w0 (pc tx ty)))
    have Ca_0 := hid (C_0.out.below (below_alloc w0 (pc tx ty)))
    have HWa0 := hid (HW0.out.trans ((below_alloc w0 (pc tx ty)).mono HW0.out.size))
    have T_0 := hid (show Bk _ _ tx ty from pt_new w0 tx ty)
    obtain ⟨⟨Ac0, Ac1⟩, -⟩ := pt_facts Aa_0.out
    obtain ⟨⟨Bc0, Bc1⟩, -⟩ := pt_facts Ba_0.out
    obtain ⟨⟨Cc0, Cc1⟩, -⟩ := pt_facts Ca_0.out
    obtain ⟨⟨Tc0, Tc1⟩, -⟩ := pt_facts T_0.out
    go_wp2_with fail
    refine (HT2.out _ (HM.out.env HV.out HWa0.out)).mono ?_; rintro e w1 ⟨rfl, hh⟩
    clear Ac0 Ac1 Bc0 Bc1 Cc0 Cc1 Tc0 Tc1
    have A_1 := hid (Aa_0.out.below hh.out)
    have B_1 := hid (Ba_0.out.below hh.out)
    have C_1 := hid (Ca_0.out.below hh.out)
    have T_1 := hid (T_0.out.below hh.out)
    have HW1 := hid (HWa0.out.trans (hh.out.mono HWa0.out.size))
    clear hh
    have Aa_1 := hid (A_1.out.below (below_alloc w1 (pc tx ty)))
    have Ba_1 := hid (B_1.out.below (below_alloc w1 (pc tx ty)))
    have Ca_1 := hid (C_1.out.below (below_alloc w1 (pc tx ty)))
    have Ta_1 := hid (T_1.out.below (below_alloc w1 (pc tx ty)))
    have HWa1 := hid (HW1.out.trans ((below_alloc w1 (pc tx ty)).mono HW1.out.size))
    have P_1 := hid (show Bk _ _ tx ty from pt_new w1 tx ty)
    obtain ⟨⟨Ac0, Ac1⟩, -⟩ := pt_facts Aa_1.out
    obtain ⟨⟨Bc0, Bc1⟩, -⟩ := pt_facts Ba_1.out
    obtain ⟨⟨Cc0, Cc1⟩, -⟩ := pt_facts Ca_1.out
    obtain ⟨⟨Tc0, Tc1⟩, -⟩ := pt_facts Ta_1.out
    obtain ⟨⟨Pc0, Pc1⟩, -⟩ := pt_facts P_1.out
    go_wp2_with fail
    have HWd := hid HWa1.out.drew
    have A_d := hid (Aa_1.out.below (Below.refl _ _).drew)
    have B_d := hid (Ba_1.out.below (Below.refl _ _).drew)
    have C_d := hid (Ca_1.out.below (Below.refl _ _).drew)
    have T_d := hid (Ta_1.out.below (Below.refl _ _).drew)
    have P_d := hid (P_1.out.below (Below.refl _ _).drew)
    go_region
    all_goals
      clear Ac0 Ac1 Bc0 Bc1 Cc0 Cc1 Tc0 Tc1 Pc0 Pc1
      obtain ⟨⟨Ac0, Ac1⟩, -⟩ := pt_facts A_d.out
      obtain ⟨⟨Bc0, Bc1⟩, -⟩ := pt_facts B_d.out
      obtain ⟨⟨Cc0, Cc1⟩, -⟩ := pt_facts C_d.out
      obtain ⟨⟨Tc0, Tc1⟩, -⟩ := pt_facts T_d.out
      obtain ⟨⟨Pc0, Pc1⟩, -⟩ := pt_facts P_d.out
      go_wp2_with fail
      refine (HAd.out _ (HM.out.env HV.out HWd.out)).mono ?_; rintro e w10 ⟨rfl, hh⟩
      clear Ac0 Ac1 Bc0 Bc1 Cc0 Cc1 Tc0 Tc1 Pc0 Pc1
      have A_10 := hid (A_d.out.below hh.out)
      have B_10 := hid (B_d.out.below hh.out)
      have C_10 := hid (C_d.out.below hh.out)
      have T_10 := hid (T_d.out.below hh.out)
      have P_10 := hid (P_d.out.below hh.out)
      have HW10 := hid (HWd.out.trans (hh.out.mono HWd.out.size))
      clear hh
      have Aa_10 := hid (A_10.out.below (below_alloc w10 (pc sx sy)))
      have Ba_10 := hid (B_10.out.below (below_alloc w10 (pc sx sy)))
      have Ca_10 := hid (C_10.out.below (below_alloc w10 (pc sx sy)))
      have Ta_10 := hid (T_10.out.below (below_alloc w10 (pc sx sy)))
      have Pa_10 := hid (P_10.out.below (below_alloc w10 (pc sx sy)))
      have HWa10 := hid (HW10.out.trans ((below_alloc w10 (pc sx sy)).mono HW10.out.size))
      have S_10 := hid (show Bk _ _ sx sy from pt_new w10 sx sy)
      obtain ⟨⟨Ac0, Ac1⟩, -⟩ := pt_facts Aa_10.out
      obtain ⟨⟨Bc0, Bc1⟩, -⟩ := pt_facts Ba_10.out
      obtain ⟨⟨Cc0, Cc1⟩, -⟩ := pt_facts Ca_10.out
      obtain ⟨⟨Tc0, Tc1⟩, -⟩ := pt_facts Ta_10.out
      obtain ⟨⟨Pc0, Pc1⟩, -⟩ := pt_facts Pa_10.out
      obtain ⟨⟨Sc0, Sc1⟩, -⟩ := pt_facts S_10.out
      go_wp2_with fail
      refine (HAd2.out _ (HM.out.env HV.out HWa10.out)).mono ?_; rintro e w11 ⟨rfl, hh⟩
      clear Ac0 Ac1 Bc0 Bc1 Cc0 Cc1 Tc0 Tc1 Pc0 Pc1 Sc0 Sc1
      have A_11 := hid (Aa_10.out.below hh.out)
      have B_11 := hid (Ba_10.out.below hh.out)
      have C_11 := hid (Ca_10.out.below hh.out)
      have T_11 := hid (Ta_10.out.below hh.out)
      have P_11 := hid (Pa_10.out.below hh.out)
      have S_11 := hid (S_10.out.below hh.out)
      have HW11 := hid (HWa10.out.trans (hh.out.mono HWa10.out.size))
      clear hh
      have Aa_11 := hid (A_11.out.below (below_alloc w11 (pc sx sy)))
      have Ba_11 := hid (B_11.out.below (below_alloc w11 (pc sx sy)))
      have Ca_11 := hid (C_11.out.below (below_alloc w11 (pc sx sy)))
      have Ta_11 := hid (T_11.out.below (below_alloc w11 (pc sx sy)))
      have Pa_11 := hid (P_11.out.below (below_alloc w11 (pc sx sy)))
      have Sa_11 := hid (S_11.out.below (below_alloc w11 (pc sx sy)))
      have HWa11 := hid (HW11.out.trans ((below_alloc w11 (pc sx sy)).mono HW11.out.size))
      have R_11 := hid (show Bk _ _ sx sy from pt_new w11 sx sy)
      obtain ⟨⟨Ac0, Ac1⟩, -⟩ := pt_facts Aa_11.out
      obtain ⟨⟨Bc0, Bc1⟩, -⟩ := pt_facts Ba_11.out
      obtain ⟨⟨Cc0, Cc1⟩, -⟩ := pt_facts Ca_11.out
      obtain ⟨⟨Tc0, Tc1⟩, -⟩ := pt_facts Ta_11.out
      obtain ⟨⟨Pc0, Pc1⟩, -⟩ := pt_facts Pa_11.out
      obtain ⟨⟨Sc0, Sc1⟩, -⟩ := pt_facts Sa_11.out
      obtain ⟨⟨Rc0, Rc1⟩, -⟩ := pt_facts R_11.out
      go_wp2_with fail
      refine (HAc.out _ (HM.out.env HV.out HWa11.out)).mono ?_; rintro e w12 ⟨rfl, hh⟩
      clear Ac0 Ac1 Bc0 Bc1 Cc0 Cc1 Tc0 Tc1 Pc0 Pc1 Sc0 Sc1 Rc0 Rc1
      have A_12 := hid (Aa_11.out.below hh.out)
      have B_12 := hid (Ba_11.out.below hh.out)
      have C_12 := hid (Ca_11.out.below hh.out)
      have T_12 := hid (Ta_11.out.below hh.out)
      have P_12 := hid (Pa_11.out.below hh.out)
      have S_12 := hid (Sa_11.out.below hh.out)
      have R_12 := hid (R_11.out.below hh.out)
      have HW12 := hid (HWa11.out.trans (hh.out.mono HWa11.out.size))
      clear hh
      have Aa_12 := hid (A_12.out.below (below_alloc w12 (pc cx cy)))
      have Ba_12 := hid (B_12.out.below (below_alloc w12 (pc cx cy)))
      have Ca_12 := hid (C_12.out.below (below_alloc w12 (pc cx cy)))
      have Ta_12 := hid (T_12.out.below (below_alloc w12 (pc cx cy)))
      have Pa_12 := hid (P_12.out.below (below_alloc w12 (pc cx cy)))
      have Sa_12 := hid (S_12.out.below (below_alloc w12 (pc cx cy)))
      have Ra_12 := hid (R_12.out.below (below_alloc w12 (pc cx cy)))
      have HWa12 := hid (HW12.out.trans ((below_alloc w12 (pc cx cy)).mono HW12.out.size))
      have E_12 := hid (show Bk _ _ cx cy from pt_new w12 cx cy)
      obtain ⟨⟨Ac0, Ac1⟩, -⟩ := pt_facts Aa_12.out
      obtain ⟨⟨Bc0, Bc1⟩, -⟩ := pt_facts Ba_12.out
      obtain ⟨⟨Cc0, Cc1⟩, -⟩ := pt_facts Ca_12.out
      obtain ⟨⟨Tc0, Tc1⟩, -⟩ := pt_facts Ta_12.out
      obtain ⟨⟨Pc0, Pc1⟩, -⟩ := pt_facts Pa_12.out
      obtain ⟨⟨Sc0, Sc1⟩, -⟩ := pt_facts Sa_12.out
      obtain ⟨⟨Rc0, Rc1⟩, -⟩ := pt_facts Ra_12.out
      obtain ⟨⟨Ec0, Ec1⟩, -⟩ := pt_facts E_12.out
      go_wp2_with fail
      refine (HSu.out _ (HM.out.env HV.out HWa12.out)).mono ?_; rintro e w13 ⟨rfl, hh⟩
      clear Ac0 Ac1 Bc0 Bc1 Cc0 Cc1 Tc0 Tc1 Pc0 Pc1 Sc0 Sc1 Rc0 Rc1 Ec0 Ec1
      have A_13 := hid (Aa_12.out.below hh.out)
      have B_13 := hid (Ba_12.out.below hh.out)
      have C_13 := hid (Ca_12.out.below hh.out)
      have T_13 := hid (Ta_12.out.below hh.out)
      have P_13 := hid (Pa_12.out.below hh.out)
      have S_13 := hid (Sa_12.out.below hh.out)
      have R_13 := hid (Ra_12.out.below hh.out)
      have E_13 := hid (E_12.out.below hh.out)
      have HW13 := hid (HWa12.out.trans (hh.out.mono HWa12.out.size))
      clear hh
      have Aa_13 := hid (A_13.out.below (below_alloc w13 (pc ux uy)))
      have Ba_13 := hid (B_13.out.below (below_alloc w13 (pc ux uy)))
      have Ca_13 := hid (C_13.out.below (below_alloc w13 (pc ux uy)))
      have Ta_13 := hid (T_13.out.below (below_alloc w13 (pc ux uy)))
      have Pa_13 := hid (P_13.out.below (below_alloc w13 (pc ux uy)))
      have Sa_13 := hid (S_13.out.below (below_alloc w13 (pc ux uy)))
      have Ra_13 := hid (R_13.out.below (below_alloc w13 (pc ux uy)))
      have Ea_13 := hid (E_13.out.below (below_alloc w13 (pc ux uy)))
      have HWa13 := hid (HW13.out.trans ((below_alloc w13 (pc ux uy)).mono HW13.out.size))
      have U_13 := hid (show Bk _ _ ux uy from pt_new w13 ux uy)
      obtain ⟨⟨Ac0, Ac1⟩, -⟩ := pt_facts Aa_13.out
      obtain ⟨⟨Bc0, Bc1⟩, -⟩ := pt_facts Ba_13.out
      obtain ⟨⟨Cc0, Cc1⟩, -⟩ := pt_facts Ca_13.out
      obtain ⟨⟨Tc0, Tc1⟩, -⟩ := pt_facts Ta_13.out
      obtain ⟨⟨Pc0, Pc1⟩, -⟩ := pt_facts Pa_13.out
      obtain ⟨⟨Sc0, Sc1⟩, -⟩ := pt_facts Sa_13.out
      obtain ⟨⟨Rc0, Rc1⟩, -⟩ := pt_facts Ra_13.out
      obtain ⟨⟨Ec0, Ec1⟩, -⟩ := pt_facts Ea_13.out
      obtain ⟨⟨Uc0, Uc1⟩, -⟩ := pt_facts U_13.out
      go_wp2_with fail
      refine (HAs.out _ (HM.out.env HV.out HWa13.out)).mono ?_; rintro e w14 ⟨rfl, hh⟩
      clear Ac0 Ac1 Bc0 Bc1 Cc0 Cc1 Tc0 Tc1 Pc0 Pc1 Sc0 Sc1 Rc0 Rc1 Ec0 Ec1 Uc0 Uc1
      have A_14 := hid (Aa_13.out.below hh.out)
      have B_14 := hid (Ba_13.out.below hh.out)
      have C_14 := hid (Ca_13.out.below hh.out)
      have T_14 := hid (Ta_13.out.below hh.out)
      have P_14 := hid (Pa_13.out.below hh.out)
      have S_14 := hid (Sa_13.out.below hh.out)
      have R_14 := hid (Ra_13.out.below hh.out)
      have E_14 := hid (Ea_13.out.below hh.out)
      have U_14 := hid (U_13.out.below hh.out)
      have HW14 := hid (HWa13.out.trans (hh.out.mono HWa13.out.size))
      clear hh
      have Aa_14 := hid (A_14.out.below (below_alloc w14 (pc mx my)))
      have Ba_14 := hid (B_14.out.below (below_alloc w14 (pc mx my)))
      have Ca_14 := hid (C_14.out.below (below_alloc w14 (pc mx my)))
      have Ta_14 := hid (T_14.out.below (below_alloc w14 (pc mx my)))
      have Pa_14 := hid (P_14.out.below (below_alloc w14 (pc mx my)))
      have Sa_14 := hid (S_14.out.below (below_alloc w14 (pc mx my)))
      have Ra_14 := hid (R_14.out.below (below_alloc w14 (pc mx my)))
      have Ea_14 := hid (E_14.out.below (below_alloc w14 (pc mx my)))
      have Ua_14 := hid (U_14.out.below (below_alloc w14 (pc mx my)))
      have HWa14 := hid (HW14.out.trans ((below_alloc w14 (pc mx my)).mono HW14.out.size))
      have M_14 := hid (show Bk _ _ mx my from pt_new w14 mx my)
      obtain ⟨⟨Ac0, Ac1⟩, -⟩ := pt_facts Aa_14.out
      obtain ⟨⟨Bc0, Bc1⟩, -⟩ := pt_facts Ba_14.out
      obtain ⟨⟨Cc0, Cc1⟩, -⟩ := pt_facts Ca_14.out
      obtain ⟨⟨Tc0, Tc1⟩, -⟩ := pt_facts Ta_14.out
      obtain ⟨⟨Pc0, Pc1⟩, -⟩ := pt_facts Pa_14.out
      obtain ⟨⟨Sc0, Sc1⟩, -⟩ := pt_facts Sa_14.out
      obtain ⟨⟨Rc0, Rc1⟩, -⟩ := pt_facts Ra_14.out
      obtain ⟨⟨Ec0, Ec1⟩, -⟩ := pt_facts Ea_14.out
      obtain ⟨⟨Uc0, Uc1⟩, -⟩ := pt_facts Ua_14.out
      obtain ⟨⟨Mc0, Mc1⟩, -⟩ := pt_facts M_14.out
      go_wp2_with fail
      refine (alive_any HM.out _ (HM.out.env HV.out HWa14.out)).mono ?_; rintro e w15 ⟨rfl, hh⟩
      clear Ac0 Ac1 Bc0 Bc1 Cc0 Cc1 Tc0 Tc1 Pc0 Pc1 Sc0 Sc1 Rc0 Rc1 Ec0 Ec1 Uc0 Uc1 Mc0 Mc1
      have A_15 := hid (Aa_14.out.below hh.out)
      have B_15 := hid (Ba_14.out.below hh.out)
      have C_15 := hid (Ca_14.out.below hh.out)
      have T_15 := hid (Ta_14.out.below hh.out)
      have P_15 := hid (Pa_14.out.below hh.out)
      have S_15 := hid (Sa_14.out.below hh.out)
      have R_15 := hid (Ra_14.out.below hh.out)
      have E_15 := hid (Ea_14.out.below hh.out)
      have U_15 := hid (Ua_14.out.below hh.out)
      have M_15 := hid (M_14.out.below hh.out)
      have HW15 := hid (HWa14.out.trans (hh.out.mono HWa14.out.size))
      clear hh
      obtain ⟨⟨Ac0, Ac1⟩, -⟩ := pt_facts A_15.out
      obtain ⟨⟨Bc0, Bc1⟩, -⟩ := pt_facts B_15.out
      obtain ⟨⟨Cc0, Cc1⟩, -⟩ := pt_facts C_15.out
      obtain ⟨⟨Tc0, Tc1⟩, -⟩ := pt_facts T_15.out
      obtain ⟨⟨Pc0, Pc1⟩, -⟩ := pt_facts P_15.out
      obtain ⟨⟨Sc0, Sc1⟩, -⟩ := pt_facts S_15.out
      obtain ⟨⟨Rc0, Rc1⟩, -⟩ := pt_facts R_15.out
      obtain ⟨⟨Ec0, Ec1⟩, -⟩ := pt_facts E_15.out
      obtain ⟨⟨Uc0, Uc1⟩, -⟩ := pt_facts U_15.out
      obtain ⟨⟨Mc0, Mc1⟩, -⟩ := pt_facts M_15.out
      go_wp2_with fail
      go_ret
      exact ⟨rfl, HW15.out⟩

end Go.Proofs.YtenncfohifekhabDoor
