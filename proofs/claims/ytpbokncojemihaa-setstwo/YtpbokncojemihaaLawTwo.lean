/- The law of two sets. -/
import Derived.Test.YtpbokncojemihaaLawRight
namespace Go.Proofs.Ytpbokncojemihaa
open Go.RowKit

set_option maxHeartbeats 4000000 in
set_option maxRecDepth 100000 in
theorem two_any (M : Meth) (p : Option Addr) (l : Row) (c : Nat) (p' : Option Addr) (m : Row) (c' : Nat) (w : World) (h : Rd w p c l) (hn : l.length ≤ 9223372036854775807) (h' : Rd w p' c' m) (hn' : m.length ≤ 9223372036854775807) :
    Calls Try.prog 5 #[.slice p l.length c, .slice p' m.length c'] w fun e w' => e = .returned (.bool true) ∧ Below w.heap.size w w' := by
  have HM := hid M
  have H := hid h
  have H' := hid h'
  clear M h h'
  by_cases hf : l.length ≤ 1000 ∧ m.length ≤ 1000
  · have HF := hid (few_yes p l.length c p' m.length c' w hf.1 hf.2)
    have hml := len_mk l
    have hmm := len_mk m
    have hra := Ris.mk l
    have hrb := Ris.mk m
    have HMk := hid fun q d W h => rmake_any q d l W h (by omega)
    have HMm := hid fun q d W h => rmake_any q d m W h (by omega)
    generalize mk l = a at *
    generalize mk m = b at *
    have hul := len_insAll b a
    have hme := len_meet a b
    have hle := len_less a b
    have HrL := hid fun q d q' d' W h h' => rsome_any q d a q' d' b false W h h' (by omega) (by omega)
    have HrM := hid fun q d q' d' W h h' => rsome_any q d a q' d' b true W h h' (by omega) (by omega)
    rw [show someL a b false = less a b from rfl] at HrL
    rw [show someL a b true = meet a b from rfl] at HrM
    have HrU := hid fun q d q' d' W h h' => runion_any q d a q' d' b W h h' (by omega)
    have HU := hid fun q d q' d' W h h' => HM.out.union q d a q' d' b W h h' (by omega) (by omega) hra hrb
    have HMe := hid fun q d q' d' W h h' => HM.out.meet q d a q' d' b W h h' (by omega) (by omega) hra hrb
    have HLe := hid fun q d q' d' W h h' => HM.out.less q d a q' d' b W h h' (by omega) (by omega) hra hrb
    have HIn := hid fun q d q' d' W h h' => HM.out.inside q d a q' d' b W h h' (by omega) (by omega) hra hrb
    have HS1 := hid fun q d q' d' W h h' => same_yes q d q' d' (insAll a b) W h h' (by omega)
    have HS2 := hid fun q d q' d' W h h' => same_yes q d q' d' (meet a b) W h h' (by omega)
    have HS3 := hid fun q d q' d' W h h' => same_yes q d q' d' (less a b) W h h' (by omega)
    have HE : Hid ((less a b).length = 0 ↔ ∀ x ∈ a, x ∈ b) := by rw [Hid, List.length_eq_zero_iff]; exact less_none
    generalize insAll a b = x at *
    generalize meet a b = y at *
    generalize less a b = z at *
    have hzl : (z.length : Int) ≤ 1000 := by omega
    go_enter Try.func5, Try.ntmps5
    go_wp2_with fail
    refine HF.out.mono ?_; rintro e w0 ⟨rfl, rfl⟩
    go_wp2_with fail
    refine (HMk.out _ _ _ H.out).mono ?_; rintro e w1 ⟨q1, d1, rfl, hh⟩
    have L_1 := hid (H.out.below hh.out.2)
    have M_1 := hid (H'.out.below hh.out.2)
    have A_1 := hid hh.out.1.rd
    have HW1 := hid hh.out.2
    clear hh
    go_wp2_with fail
    refine (HMm.out _ _ _ M_1.out).mono ?_; rintro e w2 ⟨q2, d2, rfl, hh⟩
    have L_2 := hid (L_1.out.below hh.out.2)
    have M_2 := hid (M_1.out.below hh.out.2)
    have A_2 := hid (A_1.out.below hh.out.2)
    have B_2 := hid hh.out.1.rd
    have HW2 := hid (HW1.out.trans (hh.out.2.mono HW1.out.size))
    clear hh L_1 M_1 A_1
    go_wp2_with fail
    refine (HrL.out _ _ _ _ _ A_2.out B_2.out).mono ?_; rintro e w3 ⟨q3, d3, rfl, hh⟩
    have L_3 := hid (L_2.out.below hh.out.2)
    have M_3 := hid (M_2.out.below hh.out.2)
    have A_3 := hid (A_2.out.below hh.out.2)
    have B_3 := hid (B_2.out.below hh.out.2)
    have Z_3 := hid hh.out.1.rd
    have HW3 := hid (HW2.out.trans (hh.out.2.mono HW2.out.size))
    clear hh L_2 M_2 A_2 B_2
    go_wp2_with fail
    refine (alive_any HM.out.toMethB _).mono ?_; rintro e w4 ⟨rfl, hh⟩
    have L_4 := hid (L_3.out.below hh.out)
    have M_4 := hid (M_3.out.below hh.out)
    have A_4 := hid (A_3.out.below hh.out)
    have B_4 := hid (B_3.out.below hh.out)
    have Z_4 := hid (Z_3.out.below hh.out)
    have HW4 := hid (HW3.out.trans (hh.out.mono HW3.out.size))
    clear hh L_3 M_3 A_3 B_3 Z_3
    go_wp2_with fail
    refine (HU.out _ _ _ _ _ A_4.out B_4.out).mono ?_; rintro e w5 ⟨q5, d5, rfl, hh⟩
    have L_5 := hid (L_4.out.below hh.out.2)
    have M_5 := hid (M_4.out.below hh.out.2)
    have A_5 := hid (A_4.out.below hh.out.2)
    have B_5 := hid (B_4.out.below hh.out.2)
    have Z_5 := hid (Z_4.out.below hh.out.2)
    have X1_5 := hid hh.out.1
    have HW5 := hid (HW4.out.trans (hh.out.2.mono HW4.out.size))
    clear hh L_4 M_4 A_4 B_4 Z_4
    go_wp2_with fail
    refine (HrU.out _ _ _ _ _ A_5.out B_5.out).mono ?_; rintro e w6 ⟨q6, d6, rfl, hh⟩
    have L_6 := hid (L_5.out.below hh.out.2)
    have M_6 := hid (M_5.out.below hh.out.2)
    have A_6 := hid (A_5.out.below hh.out.2)
    have B_6 := hid (B_5.out.below hh.out.2)
    have Z_6 := hid (Z_5.out.below hh.out.2)
    have X1_6 := hid (X1_5.out.below hh.out.2)
    have X2_6 := hid hh.out.1.rd
    have HW6 := hid (HW5.out.trans (hh.out.2.mono HW5.out.size))
    clear hh L_5 M_5 A_5 B_5 Z_5 X1_5
    go_wp2_with fail
    refine (HS1.out _ _ _ _ _ X1_6.out X2_6.out).mono ?_; rintro e w7 ⟨rfl, hh⟩
    have L_7 := hid (L_6.out.below hh.out)
    have M_7 := hid (M_6.out.below hh.out)
    have A_7 := hid (A_6.out.below hh.out)
    have B_7 := hid (B_6.out.below hh.out)
    have Z_7 := hid (Z_6.out.below hh.out)
    have X1_7 := hid (X1_6.out.below hh.out)
    have X2_7 := hid (X2_6.out.below hh.out)
    have HW7 := hid (HW6.out.trans (hh.out.mono HW6.out.size))
    clear hh L_6 M_6 A_6 B_6 Z_6 X1_6 X2_6
    go_wp2_with fail
    refine (HMe.out _ _ _ _ _ A_7.out B_7.out).mono ?_; rintro e w8 ⟨q8, d8, rfl, hh⟩
    have L_8 := hid (L_7.out.below hh.out.2)
    have M_8 := hid (M_7.out.below hh.out.2)
    have A_8 := hid (A_7.out.below hh.out.2)
    have B_8 := hid (B_7.out.below hh.out.2)
    have Z_8 := hid (Z_7.out.below hh.out.2)
    have X1_8 := hid (X1_7.out.below hh.out.2)
    have X2_8 := hid (X2_7.out.below hh.out.2)
    have Y1_8 := hid hh.out.1
    have HW8 := hid (HW7.out.trans (hh.out.2.mono HW7.out.size))
    clear hh L_7 M_7 A_7 B_7 Z_7 X1_7 X2_7
    go_wp2_with fail
    refine (HrM.out _ _ _ _ _ A_8.out B_8.out).mono ?_; rintro e w9 ⟨q9, d9, rfl, hh⟩
    have L_9 := hid (L_8.out.below hh.out.2)
    have M_9 := hid (M_8.out.below hh.out.2)
    have A_9 := hid (A_8.out.below hh.out.2)
    have B_9 := hid (B_8.out.below hh.out.2)
    have Z_9 := hid (Z_8.out.below hh.out.2)
    have X1_9 := hid (X1_8.out.below hh.out.2)
    have X2_9 := hid (X2_8.out.below hh.out.2)
    have Y1_9 := hid (Y1_8.out.below hh.out.2)
    have Y2_9 := hid hh.out.1.rd
    have HW9 := hid (HW8.out.trans (hh.out.2.mono HW8.out.size))
    clear hh L_8 M_8 A_8 B_8 Z_8 X1_8 X2_8 Y1_8
    go_wp2_with fail
    refine (HS2.out _ _ _ _ _ Y1_9.out Y2_9.out).mono ?_; rintro e w10 ⟨rfl, hh⟩
    have L_10 := hid (L_9.out.below hh.out)
    have M_10 := hid (M_9.out.below hh.out)
    have A_10 := hid (A_9.out.below hh.out)
    have B_10 := hid (B_9.out.below hh.out)
    have Z_10 := hid (Z_9.out.below hh.out)
    have X1_10 := hid (X1_9.out.below hh.out)
    have X2_10 := hid (X2_9.out.below hh.out)
    have Y1_10 := hid (Y1_9.out.below hh.out)
    have Y2_10 := hid (Y2_9.out.below hh.out)
    have HW10 := hid (HW9.out.trans (hh.out.mono HW9.out.size))
    clear hh L_9 M_9 A_9 B_9 Z_9 X1_9 X2_9 Y1_9 Y2_9
    go_wp2_with fail
    refine (HLe.out _ _ _ _ _ A_10.out B_10.out).mono ?_; rintro e w11 ⟨q11, d11, rfl, hh⟩
    have L_11 := hid (L_10.out.below hh.out.2)
    have M_11 := hid (M_10.out.below hh.out.2)
    have A_11 := hid (A_10.out.below hh.out.2)
    have B_11 := hid (B_10.out.below hh.out.2)
    have Z_11 := hid (Z_10.out.below hh.out.2)
    have X1_11 := hid (X1_10.out.below hh.out.2)
    have X2_11 := hid (X2_10.out.below hh.out.2)
    have Y1_11 := hid (Y1_10.out.below hh.out.2)
    have Y2_11 := hid (Y2_10.out.below hh.out.2)
    have Z1_11 := hid hh.out.1
    have HW11 := hid (HW10.out.trans (hh.out.2.mono HW10.out.size))
    clear hh L_10 M_10 A_10 B_10 Z_10 X1_10 X2_10 Y1_10 Y2_10
    go_wp2_with fail
    refine (HrL.out _ _ _ _ _ A_11.out B_11.out).mono ?_; rintro e w12 ⟨q12, d12, rfl, hh⟩
    have L_12 := hid (L_11.out.below hh.out.2)
    have M_12 := hid (M_11.out.below hh.out.2)
    have A_12 := hid (A_11.out.below hh.out.2)
    have B_12 := hid (B_11.out.below hh.out.2)
    have Z_12 := hid (Z_11.out.below hh.out.2)
    have X1_12 := hid (X1_11.out.below hh.out.2)
    have X2_12 := hid (X2_11.out.below hh.out.2)
    have Y1_12 := hid (Y1_11.out.below hh.out.2)
    have Y2_12 := hid (Y2_11.out.below hh.out.2)
    have Z1_12 := hid (Z1_11.out.below hh.out.2)
    have Z2_12 := hid hh.out.1.rd
    have HW12 := hid (HW11.out.trans (hh.out.2.mono HW11.out.size))
    clear hh L_11 M_11 A_11 B_11 Z_11 X1_11 X2_11 Y1_11 Y2_11 Z1_11
    go_wp2_with fail
    refine (HS3.out _ _ _ _ _ Z1_12.out Z2_12.out).mono ?_; rintro e w13 ⟨rfl, hh⟩
    have L_13 := hid (L_12.out.below hh.out)
    have M_13 := hid (M_12.out.below hh.out)
    have A_13 := hid (A_12.out.below hh.out)
    have B_13 := hid (B_12.out.below hh.out)
    have Z_13 := hid (Z_12.out.below hh.out)
    have X1_13 := hid (X1_12.out.below hh.out)
    have X2_13 := hid (X2_12.out.below hh.out)
    have Y1_13 := hid (Y1_12.out.below hh.out)
    have Y2_13 := hid (Y2_12.out.below hh.out)
    have Z1_13 := hid (Z1_12.out.below hh.out)
    have Z2_13 := hid (Z2_12.out.below hh.out)
    have HW13 := hid (HW12.out.trans (hh.out.mono HW12.out.size))
    clear hh L_12 M_12 A_12 B_12 Z_12 X1_12 X2_12 Y1_12 Y2_12 Z1_12 Z2_12
    go_wp2_with fail
    refine (HIn.out _ _ _ _ _ A_13.out B_13.out).mono ?_; rintro e w14 ⟨V14, rfl, hh⟩
    have L_14 := hid (L_13.out.below hh.out.2)
    have M_14 := hid (M_13.out.below hh.out.2)
    have A_14 := hid (A_13.out.below hh.out.2)
    have B_14 := hid (B_13.out.below hh.out.2)
    have Z_14 := hid (Z_13.out.below hh.out.2)
    have X1_14 := hid (X1_13.out.below hh.out.2)
    have X2_14 := hid (X2_13.out.below hh.out.2)
    have Y1_14 := hid (Y1_13.out.below hh.out.2)
    have Y2_14 := hid (Y2_13.out.below hh.out.2)
    have Z1_14 := hid (Z1_13.out.below hh.out.2)
    have Z2_14 := hid (Z2_13.out.below hh.out.2)
    have HV14 := hid hh.out.1
    have HW14 := hid (HW13.out.trans (hh.out.2.mono HW13.out.size))
    clear hh L_13 M_13 A_13 B_13 Z_13 X1_13 X2_13 Y1_13 Y2_13 Z1_13 Z2_13
    have hin : (V14 == ((z.length : Int) == 0)) = true := by
      have h1 := HV14.out
      have h2 := HE.out
      by_cases hz : z.length = 0
      · rw [h1.2 (h2.1 hz)]; simp [hz]
      · have h3 : V14 = false := by cases hv : V14 with | false => rfl | true => exact absurd (h2.2 (h1.1 hv)) hz
        have h4 : ((z.length : Int) == 0) = false := beq_eq_false_iff_ne.2 (by omega)
        rw [h3, h4]; rfl
    go_wp2_with fail
    go_ret
    exact ⟨rfl, HW14.out⟩
  · have HF := hid (few_no p l.length c p' m.length c' w hf hn hn')
    go_enter Try.func5, Try.ntmps5
    go_wp2_with fail
    refine HF.out.mono ?_; rintro e w1 ⟨rfl, rfl⟩
    go_wp2_with fail
    refine (alive_any HM.out.toMethB _).mono ?_; rintro e w3 ⟨rfl, hh⟩
    have HW3 := hid hh.out
    clear hh
    go_wp2_with fail
    go_ret
    exact ⟨rfl, HW3.out⟩

end Go.Proofs.Ytpbokncojemihaa
