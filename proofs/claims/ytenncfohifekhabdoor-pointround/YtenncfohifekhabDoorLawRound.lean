/- The law of turns by two numbers. -/
import Derived.Test.YtenncfohifekhabDoorBks
namespace Go.Proofs.YtenncfohifekhabDoor
open Go.RowKit

set_option maxHeartbeats 16000000 in
set_option maxRecDepth 100000 in
theorem round_any {V : World → Prop} (M : MethP V) (x y m n : Int) (w : World) (hV : V w) (m0 : -9223372036854775808 ≤ m) (m1 : m ≤ 9223372036854775807) (n0 : -9223372036854775808 ≤ n) (n1 : n ≤ 9223372036854775807) :
    Calls Tryd.prog 4 #[pv x y, .int .i64 m, .int .i64 n] w fun e w' => e = .returned (.bool true) ∧ Below w.heap.size w w' := by
  have HM := hid M
  have HV := hid hV
  have HX := hid (show Bk _ _ x y from pt_new w x y)
  have HW := hid (below_alloc w (pc x y))
  have HR := hid fun W => rright_any x y W
  by_cases hb : m < -1099511627776 ∨ 1099511627776 < m ∨ n < -1099511627776 ∨ 1099511627776 < n
  · clear M hV HR
    obtain ⟨⟨Xc0, Xc1⟩, -⟩ := pt_facts HX.out
    by_cases b1 : m < -1099511627776
    all_goals by_cases b2 : 1099511627776 < m
    all_goals by_cases b3 : n < -1099511627776
    all_goals by_cases b4 : 1099511627776 < n
    all_goals first | (exfalso; omega) | skip
    all_goals clear hb
    all_goals go_enter Tryd.func4, Tryd.ntmps4
    all_goals go_wp2_with fail
    all_goals (refine (alive_any HM.out _ (HM.out.env HV.out HW.out)).mono ?_; rintro e w1 ⟨rfl, hh⟩; have HW1 := hid (HW.out.trans (hh.out.mono HW.out.size)); clear hh)
    all_goals go_wp2_with fail
    all_goals go_ret
    all_goals exact ⟨rfl, HW1.out⟩
  · have b1 : ¬ m < -1099511627776 := by omega
    have b2 : ¬ 1099511627776 < m := by omega
    have b3 : ¬ n < -1099511627776 := by omega
    have b4 : ¬ 1099511627776 < n := by omega
    clear hb
    obtain ⟨⟨Xc0, Xc1⟩, -⟩ := pt_facts HX.out
    by_cases h : rt x y = true
    · rw [h] at HR
      have H1 := hid fun W h => HM.out.turn x y 4 W h (by decide) (by decide)
      rw [turn_four h] at H1
      have H2 := hid fun W h => HM.out.turn x y m W h (by omega) (by omega)
      have H3 := hid fun W h => HM.out.turn (turnP x y m).1 (turnP x y m).2 n W h (by omega) (by omega)
      have H4 := hid fun W h => HM.out.turn x y (m + n) W h (by omega) (by omega)
      rw [turn_both m n h] at H3
      have hwr : IntKind.i64.wrap (m + n) = m + n := by rw [IntKind.wrap_i64]; omega
      generalize turnP x y (m + n) = T at *
      generalize turnP x y m = U at *
      obtain ⟨t1, t2⟩ := T
      obtain ⟨u1, u2⟩ := U
      simp only at H2 H3 H4
      clear M hV h
      go_enter Tryd.func4, Tryd.ntmps4
      go_wp2_with fail
      refine (HR.out _).mono ?_; rintro e w0 ⟨rfl, hh⟩
      clear Xc0 Xc1
      have X_0 := hid (HX.out.below hh.out)
      have HW0 := hid (HW.out.trans (hh.out.mono HW.out.size))
      clear hh
      obtain ⟨⟨Xc0, Xc1⟩, -⟩ := pt_facts X_0.out
      go_wp2_with fail
      have HWd := hid HW0.out.drew
      have X_d := hid (X_0.out.below (Below.refl _ _).drew)
      go_region_law (first
        | (go_simp; go_at_call 10; (with_reducible refine (alive_any HM.out _ (HM.out.env HV.out HWd.out)).mono ?_); rintro e v0 ⟨rfl, hh⟩; have X_v0 := hid (X_d.out.below hh.out); have HV0 := hid (HWd.out.trans (hh.out.mono HWd.out.size)); clear hh; obtain ⟨⟨Xp0, Xq0⟩, -⟩ := pt_facts X_v0.out)
        | (go_simp; go_at_call 12; (with_reducible refine (H1.out _ (HM.out.env HV.out HV0.out)).mono ?_); rintro e v1 ⟨rfl, hh⟩; have X_v1 := hid (X_v0.out.below hh.out); have HV1 := hid (HV0.out.trans (hh.out.mono HV0.out.size)); clear hh; obtain ⟨⟨Xp1, Xq1⟩, -⟩ := pt_facts X_v1.out)
        | (go_simp; go_at_call 12; (with_reducible refine (H2.out _ (HM.out.env HV.out HV1.out)).mono ?_); rintro e v2 ⟨rfl, hh⟩; have X_v2 := hid (X_v1.out.below hh.out); have HV2 := hid (HV1.out.trans (hh.out.mono HV1.out.size)); clear hh; obtain ⟨⟨Xp2, Xq2⟩, -⟩ := pt_facts X_v2.out)
        | (go_simp; go_at_call 12; (with_reducible refine (H3.out _ (HM.out.env HV.out HV2.out)).mono ?_); rintro e v3 ⟨rfl, hh⟩; have X_v3 := hid (X_v2.out.below hh.out); have HV3 := hid (HV2.out.trans (hh.out.mono HV2.out.size)); clear hh; obtain ⟨⟨Xp3, Xq3⟩, -⟩ := pt_facts X_v3.out)
        | (go_simp; go_at_call 12; (with_reducible refine (H4.out _ (HM.out.env HV.out HV3.out)).mono ?_); rintro e v4 ⟨rfl, hh⟩; have X_v4 := hid (X_v3.out.below hh.out); have HV4 := hid (HV3.out.trans (hh.out.mono HV3.out.size)); clear hh; obtain ⟨⟨Xp4, Xq4⟩, -⟩ := pt_facts X_v4.out))
      all_goals go_wp2_with fail
      all_goals go_ret
      all_goals exact ⟨rfl, HV4.out⟩
    · have h' : rt x y = false := by simpa using h
      rw [h'] at HR
      clear M hV h h'
      go_enter Tryd.func4, Tryd.ntmps4
      go_wp2_with fail
      refine (HR.out _).mono ?_; rintro e w0 ⟨rfl, hh⟩
      clear Xc0 Xc1
      have X_0 := hid (HX.out.below hh.out)
      have HW0 := hid (HW.out.trans (hh.out.mono HW.out.size))
      clear hh
      obtain ⟨⟨Xc0, Xc1⟩, -⟩ := pt_facts X_0.out
      go_wp2_with fail
      refine (alive_any HM.out _ (HM.out.env HV.out HW0.out)).mono ?_; rintro e w1 ⟨rfl, hh⟩
      clear Xc0 Xc1
      have X_1 := hid (X_0.out.below hh.out)
      have HW1 := hid (HW0.out.trans (hh.out.mono HW0.out.size))
      clear hh
      obtain ⟨⟨Xc0, Xc1⟩, -⟩ := pt_facts X_1.out
      go_wp2_with fail
      go_ret
      exact ⟨rfl, HW1.out⟩

end Go.Proofs.YtenncfohifekhabDoor
