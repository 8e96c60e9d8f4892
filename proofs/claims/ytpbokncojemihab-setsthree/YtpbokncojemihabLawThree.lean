/- The law of three sets. -/
import Derived.Test.YtpbokncojemihabMethB
namespace Go.Proofs.Ytpbokncojemihab
open Go.RowKit

set_option maxHeartbeats 4000000 in
set_option maxRecDepth 100000 in
theorem three_any (M : MethB) (p : Option Addr) (l : Row) (c : Nat) (p' : Option Addr) (m : Row) (c' : Nat) (p'' : Option Addr) (n : Row) (c'' : Nat) (w : World) (h : Rd w p c l) (hn : l.length ≤ 9223372036854775807) (h' : Rd w p' c' m) (hn' : m.length ≤ 9223372036854775807) (h'' : Rd w p'' c'' n) (hn'' : n.length ≤ 9223372036854775807) :
    Calls Try.prog 3 #[.slice p l.length c, .slice p' m.length c', .slice p'' n.length c''] w fun e w' => e = .returned (.bool true) ∧ Below w.heap.size w w' := by
  have HM := hid M
  have H := hid h
  have H' := hid h'
  have H'' := hid h''
  clear M h h' h''
  by_cases hf : l.length ≤ 1000 ∧ m.length ≤ 1000
  · have HF := hid (few_yes p l.length c p' m.length c' w hf.1 hf.2)
    by_cases hf2 : n.length ≤ 1000
    · have HF2 := hid (few_yes p'' n.length c'' none 0 0 w hf2 (by decide))
      have hml := len_mk l
      have hmm := len_mk m
      have hmn := len_mk n
      have hra := Ris.mk l
      have hrb := Ris.mk m
      have hrc := Ris.mk n
      have HMl := hid fun q d W h => HM.out.make q d l W h (by omega)
      have HMm := hid fun q d W h => HM.out.make q d m W h (by omega)
      have HMn := hid fun q d W h => HM.out.make q d n W h (by omega)
      generalize mk l = a at *
      generalize mk m = b at *
      generalize mk n = x at *
      have l1 := len_insAll b a
      have l2 := len_insAll x b
      have l3 := len_insAll (insAll b x) a
      have l4 := len_meet a b
      have l5 := len_meet b x
      have l6 := len_meet a x
      have l7 := len_meet a (meet b x)
      have l8 := len_meet a (insAll b x)
      have r1 := Ris.insAll b hra
      have r2 := Ris.insAll x hrb
      have r4 := hra.meet b
      have r5 := hrb.meet x
      have r6 := hra.meet x
      have HU1 := hid fun q d q' d' W h h' => HM.out.union q d a q' d' b W h h' (by omega) (by omega) hra hrb
      have HU2 := hid fun q d q' d' W h h' => HM.out.union q d (insAll a b) q' d' x W h h' (by omega) (by omega) r1 hrc
      rw [union_assoc hra] at HU2
      have HU3 := hid fun q d q' d' W h h' => HM.out.union q d b q' d' x W h h' (by omega) (by omega) hrb hrc
      have HU4 := hid fun q d q' d' W h h' => HM.out.union q d a q' d' (insAll b x) W h h' (by omega) (by omega) hra r2
      have HM1 := hid fun q d q' d' W h h' => HM.out.meet q d a q' d' b W h h' (by omega) (by omega) hra hrb
      have HM2 := hid fun q d q' d' W h h' => HM.out.meet q d (meet a b) q' d' x W h h' (by omega) (by omega) r4 hrc
      rw [meet_assoc hra] at HM2
      have HM3 := hid fun q d q' d' W h h' => HM.out.meet q d b q' d' x W h h' (by omega) (by omega) hrb hrc
      have HM4 := hid fun q d q' d' W h h' => HM.out.meet q d a q' d' (meet b x) W h h' (by omega) (by omega) hra r5
      have HM5 := hid fun q d q' d' W h h' => HM.out.meet q d a q' d' (insAll b x) W h h' (by omega) (by omega) hra r2
      have HM6 := hid fun q d q' d' W h h' => HM.out.meet q d a q' d' x W h h' (by omega) (by omega) hra hrc
      have HU5 := hid fun q d q' d' W h h' => HM.out.union q d (meet a b) q' d' (meet a x) W h h' (by omega) (by omega) r4 r6
      rw [← meet_union hra] at HU5
      have HS1 := hid fun q d q' d' W h h' => same_yes q d q' d' (insAll a (insAll b x)) W h h' (by omega)
      have HS2 := hid fun q d q' d' W h h' => same_yes q d q' d' (meet a (meet b x)) W h h' (by omega)
      have HS3 := hid fun q d q' d' W h h' => same_yes q d q' d' (meet a (insAll b x)) W h h' (by omega)
      go_enter Try.func3, Try.ntmps3
      go_wp2_with fail
      refine HF.out.mono ?_; rintro e w0 ⟨rfl, rfl⟩
      go_wp2_with fail
      refine HF2.out.mono ?_; rintro e w1 ⟨rfl, rfl⟩
      go_wp2_with fail
      refine (HMl.out _ _ _ H.out).mono ?_; rintro e w2 ⟨q2, d2, rfl, hh⟩
      have L_2 := hid (H.out.below hh.out.2)
      have M_2 := hid (H'.out.below hh.out.2)
      have N_2 := hid (H''.out.below hh.out.2)
      have A_2 := hid hh.out.1
      have HW2 := hid hh.out.2
      clear hh
      go_wp2_with fail
      refine (HMm.out _ _ _ M_2.out).mono ?_; rintro e w3 ⟨q3, d3, rfl, hh⟩
      have L_3 := hid (L_2.out.below hh.out.2)
      have M_3 := hid (M_2.out.below hh.out.2)
      have N_3 := hid (N_2.out.below hh.out.2)
      have A_3 := hid (A_2.out.below hh.out.2)
      have B_3 := hid hh.out.1
      have HW3 := hid (HW2.out.trans (hh.out.2.mono HW2.out.size))
      clear hh L_2 M_2 N_2 A_2
      go_wp2_with fail
      refine (HMn.out _ _ _ N_3.out).mono ?_; rintro e w4 ⟨q4, d4, rfl, hh⟩
      have L_4 := hid (L_3.out.below hh.out.2)
      have M_4 := hid (M_3.out.below hh.out.2)
      have N_4 := hid (N_3.out.below hh.out.2)
      have A_4 := hid (A_3.out.below hh.out.2)
      have B_4 := hid (B_3.out.below hh.out.2)
      have C_4 := hid hh.out.1
      have HW4 := hid (HW3.out.trans (hh.out.2.mono HW3.out.size))
      clear hh L_3 M_3 N_3 A_3 B_3
      go_wp2_with fail
      refine (HU1.out _ _ _ _ _ A_4.out B_4.out).mono ?_; rintro e w5 ⟨q5, d5, rfl, hh⟩
      have L_5 := hid (L_4.out.below hh.out.2)
      have M_5 := hid (M_4.out.below hh.out.2)
      have N_5 := hid (N_4.out.below hh.out.2)
      have A_5 := hid (A_4.out.below hh.out.2)
      have B_5 := hid (B_4.out.below hh.out.2)
      have C_5 := hid (C_4.out.below hh.out.2)
      have AB_5 := hid hh.out.1
      have HW5 := hid (HW4.out.trans (hh.out.2.mono HW4.out.size))
      clear hh L_4 M_4 N_4 A_4 B_4 C_4
      go_wp2_with fail
      refine (HU2.out _ _ _ _ _ AB_5.out C_5.out).mono ?_; rintro e w6 ⟨q6, d6, rfl, hh⟩
      have L_6 := hid (L_5.out.below hh.out.2)
      have M_6 := hid (M_5.out.below hh.out.2)
      have N_6 := hid (N_5.out.below hh.out.2)
      have A_6 := hid (A_5.out.below hh.out.2)
      have B_6 := hid (B_5.out.below hh.out.2)
      have C_6 := hid (C_5.out.below hh.out.2)
      have AB_6 := hid (AB_5.out.below hh.out.2)
      have U1_6 := hid hh.out.1
      have HW6 := hid (HW5.out.trans (hh.out.2.mono HW5.out.size))
      clear hh L_5 M_5 N_5 A_5 B_5 C_5 AB_5
      go_wp2_with fail
      refine (HU3.out _ _ _ _ _ B_6.out C_6.out).mono ?_; rintro e w7 ⟨q7, d7, rfl, hh⟩
      have L_7 := hid (L_6.out.below hh.out.2)
      have M_7 := hid (M_6.out.below hh.out.2)
      have N_7 := hid (N_6.out.below hh.out.2)
      have A_7 := hid (A_6.out.below hh.out.2)
      have B_7 := hid (B_6.out.below hh.out.2)
      have C_7 := hid (C_6.out.below hh.out.2)
      have AB_7 := hid (AB_6.out.below hh.out.2)
      have U1_7 := hid (U1_6.out.below hh.out.2)
      have BC_7 := hid hh.out.1
      have HW7 := hid (HW6.out.trans (hh.out.2.mono HW6.out.size))
      clear hh L_6 M_6 N_6 A_6 B_6 C_6 AB_6 U1_6
      go_wp2_with fail
      refine (HU4.out _ _ _ _ _ A_7.out BC_7.out).mono ?_; rintro e w8 ⟨q8, d8, rfl, hh⟩
      have L_8 := hid (L_7.out.below hh.out.2)
      have M_8 := hid (M_7.out.below hh.out.2)
      have N_8 := hid (N_7.out.below hh.out.2)
      have A_8 := hid (A_7.out.below hh.out.2)
      have B_8 := hid (B_7.out.below hh.out.2)
      have C_8 := hid (C_7.out.below hh.out.2)
      have AB_8 := hid (AB_7.out.below hh.out.2)
      have U1_8 := hid (U1_7.out.below hh.out.2)
      have BC_8 := hid (BC_7.out.below hh.out.2)
      have U2_8 := hid hh.out.1
      have HW8 := hid (HW7.out.trans (hh.out.2.mono HW7.out.size))
      clear hh L_7 M_7 N_7 A_7 B_7 C_7 AB_7 U1_7 BC_7
      go_wp2_with fail
      refine (HS1.out _ _ _ _ _ U1_8.out U2_8.out).mono ?_; rintro e w9 ⟨rfl, hh⟩
      have L_9 := hid (L_8.out.below hh.out)
      have M_9 := hid (M_8.out.below hh.out)
      have N_9 := hid (N_8.out.below hh.out)
      have A_9 := hid (A_8.out.below hh.out)
      have B_9 := hid (B_8.out.below hh.out)
      have C_9 := hid (C_8.out.below hh.out)
      have AB_9 := hid (AB_8.out.below hh.out)
      have U1_9 := hid (U1_8.out.below hh.out)
      have BC_9 := hid (BC_8.out.below hh.out)
      have U2_9 := hid (U2_8.out.below hh.out)
      have HW9 := hid (HW8.out.trans (hh.out.mono HW8.out.size))
      clear hh L_8 M_8 N_8 A_8 B_8 C_8 AB_8 U1_8 BC_8 U2_8
      go_wp2_with fail
      refine (HM1.out _ _ _ _ _ A_9.out B_9.out).mono ?_; rintro e w10 ⟨q10, d10, rfl, hh⟩
      have L_10 := hid (L_9.out.below hh.out.2)
      have M_10 := hid (M_9.out.below hh.out.2)
      have N_10 := hid (N_9.out.below hh.out.2)
      have A_10 := hid (A_9.out.below hh.out.2)
      have B_10 := hid (B_9.out.below hh.out.2)
      have C_10 := hid (C_9.out.below hh.out.2)
      have AB_10 := hid (AB_9.out.below hh.out.2)
      have U1_10 := hid (U1_9.out.below hh.out.2)
      have BC_10 := hid (BC_9.out.below hh.out.2)
      have U2_10 := hid (U2_9.out.below hh.out.2)
      have MAB_10 := hid hh.out.1
      have HW10 := hid (HW9.out.trans (hh.out.2.mono HW9.out.size))
      clear hh L_9 M_9 N_9 A_9 B_9 C_9 AB_9 U1_9 BC_9 U2_9
      go_wp2_with fail
      refine (HM2.out _ _ _ _ _ MAB_10.out C_10.out).mono ?_; rintro e w11 ⟨q11, d11, rfl, hh⟩
      have L_11 := hid (L_10.out.below hh.out.2)
      have M_11 := hid (M_10.out.below hh.out.2)
      have N_11 := hid (N_10.out.below hh.out.2)
      have A_11 := hid (A_10.out.below hh.out.2)
      have B_11 := hid (B_10.out.below hh.out.2)
      have C_11 := hid (C_10.out.below hh.out.2)
      have AB_11 := hid (AB_10.out.below hh.out.2)
      have U1_11 := hid (U1_10.out.below hh.out.2)
      have BC_11 := hid (BC_10.out.below hh.out.2)
      have U2_11 := hid (U2_10.out.below hh.out.2)
      have MAB_11 := hid (MAB_10.out.below hh.out.2)
      have V1_11 := hid hh.out.1
      have HW11 := hid (HW10.out.trans (hh.out.2.mono HW10.out.size))
      clear hh L_10 M_10 N_10 A_10 B_10 C_10 AB_10 U1_10 BC_10 U2_10 MAB_10
      go_wp2_with fail
      refine (HM3.out _ _ _ _ _ B_11.out C_11.out).mono ?_; rintro e w12 ⟨q12, d12, rfl, hh⟩
      have L_12 := hid (L_11.out.below hh.out.2)
      have M_12 := hid (M_11.out.below hh.out.2)
      have N_12 := hid (N_11.out.below hh.out.2)
      have A_12 := hid (A_11.out.below hh.out.2)
      have B_12 := hid (B_11.out.below hh.out.2)
      have C_12 := hid (C_11.out.below hh.out.2)
      have AB_12 := hid (AB_11.out.below hh.out.2)
      have U1_12 := hid (U1_11.out.below hh.out.2)
      have BC_12 := hid (BC_11.out.below hh.out.2)
      have U2_12 := hid (U2_11.out.below hh.out.2)
      have MAB_12 := hid (MAB_11.out.below hh.out.2)
      have V1_12 := hid (V1_11.out.below hh.out.2)
      have MBC_12 := hid hh.out.1
      have HW12 := hid (HW11.out.trans (hh.out.2.mono HW11.out.size))
      clear hh L_11 M_11 N_11 A_11 B_11 C_11 AB_11 U1_11 BC_11 U2_11 MAB_11 V1_11
      go_wp2_with fail
      refine (HM4.out _ _ _ _ _ A_12.out MBC_12.out).mono ?_; rintro e w13 ⟨q13, d13, rfl, hh⟩
      have L_13 := hid (L_12.out.below hh.out.2)
      have M_13 := hid (M_12.out.below hh.out.2)
      have N_13 := hid (N_12.out.below hh.out.2)
      have A_13 := hid (A_12.out.below hh.out.2)
      have B_13 := hid (B_12.out.below hh.out.2)
      have C_13 := hid (C_12.out.below hh.out.2)
      have AB_13 := hid (AB_12.out.below hh.out.2)
      have U1_13 := hid (U1_12.out.below hh.out.2)
      have BC_13 := hid (BC_12.out.below hh.out.2)
      have U2_13 := hid (U2_12.out.below hh.out.2)
      have MAB_13 := hid (MAB_12.out.below hh.out.2)
      have V1_13 := hid (V1_12.out.below hh.out.2)
      have MBC_13 := hid (MBC_12.out.below hh.out.2)
      have V2_13 := hid hh.out.1
      have HW13 := hid (HW12.out.trans (hh.out.2.mono HW12.out.size))
      clear hh L_12 M_12 N_12 A_12 B_12 C_12 AB_12 U1_12 BC_12 U2_12 MAB_12 V1_12 MBC_12
      go_wp2_with fail
      refine (HS2.out _ _ _ _ _ V1_13.out V2_13.out).mono ?_; rintro e w14 ⟨rfl, hh⟩
      have L_14 := hid (L_13.out.below hh.out)
      have M_14 := hid (M_13.out.below hh.out)
      have N_14 := hid (N_13.out.below hh.out)
      have A_14 := hid (A_13.out.below hh.out)
      have B_14 := hid (B_13.out.below hh.out)
      have C_14 := hid (C_13.out.below hh.out)
      have AB_14 := hid (AB_13.out.below hh.out)
      have U1_14 := hid (U1_13.out.below hh.out)
      have BC_14 := hid (BC_13.out.below hh.out)
      have U2_14 := hid (U2_13.out.below hh.out)
      have MAB_14 := hid (MAB_13.out.below hh.out)
      have V1_14 := hid (V1_13.out.below hh.out)
      have MBC_14 := hid (MBC_13.out.below hh.out)
      have V2_14 := hid (V2_13.out.below hh.out)
      have HW14 := hid (HW13.out.trans (hh.out.mono HW13.out.size))
      clear hh L_13 M_13 N_13 A_13 B_13 C_13 AB_13 U1_13 BC_13 U2_13 MAB_13 V1_13 MBC_13 V2_13
      go_wp2_with fail
      refine (alive_any HM.out _).mono ?_; rintro e w15 ⟨rfl, hh⟩
      have L_15 := hid (L_14.out.below hh.out)
      have M_15 := hid (M_14.out.below hh.out)
      have N_15 := hid (N_14.out.below hh.out)
      have A_15 := hid (A_14.out.below hh.out)
      have B_15 := hid (B_14.out.below hh.out)
      have C_15 := hid (C_14.out.below hh.out)
      have AB_15 := hid (AB_14.out.below hh.out)
      have U1_15 := hid (U1_14.out.below hh.out)
      have BC_15 := hid (BC_14.out.below hh.out)
      have U2_15 := hid (U2_14.out.below hh.out)
      have MAB_15 := hid (MAB_14.out.below hh.out)
      have V1_15 := hid (V1_14.out.below hh.out)
      have MBC_15 := hid (MBC_14.out.below hh.out)
      have V2_15 := hid (V2_14.out.below hh.out)
      have HW15 := hid (HW14.out.trans (hh.out.mono HW14.out.size))
      clear hh L_14 M_14 N_14 A_14 B_14 C_14 AB_14 U1_14 BC_14 U2_14 MAB_14 V1_14 MBC_14 V2_14
      go_wp2_with fail
      refine (HU3.out _ _ _ _ _ B_15.out C_15.out).mono ?_; rintro e w16 ⟨q16, d16, rfl, hh⟩
      have L_16 := hid (L_15.out.below hh.out.2)
      have M_16 := hid (M_15.out.below hh.out.2)
      have N_16 := hid (N_15.out.below hh.out.2)
      have A_16 := hid (A_15.out.below hh.out.2)
      have B_16 := hid (B_15.out.below hh.out.2)
      have C_16 := hid (C_15.out.below hh.out.2)
      have AB_16 := hid (AB_15.out.below hh.out.2)
      have U1_16 := hid (U1_15.out.below hh.out.2)
      have BC_16 := hid (BC_15.out.below hh.out.2)
      have U2_16 := hid (U2_15.out.below hh.out.2)
      have MAB_16 := hid (MAB_15.out.below hh.out.2)
      have V1_16 := hid (V1_15.out.below hh.out.2)
      have MBC_16 := hid (MBC_15.out.below hh.out.2)
      have V2_16 := hid (V2_15.out.below hh.out.2)
      have BC2_16 := hid hh.out.1
      have HW16 := hid (HW15.out.trans (hh.out.2.mono HW15.out.size))
      clear hh L_15 M_15 N_15 A_15 B_15 C_15 AB_15 U1_15 BC_15 U2_15 MAB_15 V1_15 MBC_15 V2_15
      go_wp2_with fail
      refine (HM5.out _ _ _ _ _ A_16.out BC2_16.out).mono ?_; rintro e w17 ⟨q17, d17, rfl, hh⟩
      have L_17 := hid (L_16.out.below hh.out.2)
      have M_17 := hid (M_16.out.below hh.out.2)
      have N_17 := hid (N_16.out.below hh.out.2)
      have A_17 := hid (A_16.out.below hh.out.2)
      have B_17 := hid (B_16.out.below hh.out.2)
      have C_17 := hid (C_16.out.below hh.out.2)
      have AB_17 := hid (AB_16.out.below hh.out.2)
      have U1_17 := hid (U1_16.out.below hh.out.2)
      have BC_17 := hid (BC_16.out.below hh.out.2)
      have U2_17 := hid (U2_16.out.below hh.out.2)
      have MAB_17 := hid (MAB_16.out.below hh.out.2)
      have V1_17 := hid (V1_16.out.below hh.out.2)
      have MBC_17 := hid (MBC_16.out.below hh.out.2)
      have V2_17 := hid (V2_16.out.below hh.out.2)
      have BC2_17 := hid (BC2_16.out.below hh.out.2)
      have W1_17 := hid hh.out.1
      have HW17 := hid (HW16.out.trans (hh.out.2.mono HW16.out.size))
      clear hh L_16 M_16 N_16 A_16 B_16 C_16 AB_16 U1_16 BC_16 U2_16 MAB_16 V1_16 MBC_16 V2_16 BC2_16
      go_wp2_with fail
      refine (HM1.out _ _ _ _ _ A_17.out B_17.out).mono ?_; rintro e w18 ⟨q18, d18, rfl, hh⟩
      have L_18 := hid (L_17.out.below hh.out.2)
      have M_18 := hid (M_17.out.below hh.out.2)
      have N_18 := hid (N_17.out.below hh.out.2)
      have A_18 := hid (A_17.out.below hh.out.2)
      have B_18 := hid (B_17.out.below hh.out.2)
      have C_18 := hid (C_17.out.below hh.out.2)
      have AB_18 := hid (AB_17.out.below hh.out.2)
      have U1_18 := hid (U1_17.out.below hh.out.2)
      have BC_18 := hid (BC_17.out.below hh.out.2)
      have U2_18 := hid (U2_17.out.below hh.out.2)
      have MAB_18 := hid (MAB_17.out.below hh.out.2)
      have V1_18 := hid (V1_17.out.below hh.out.2)
      have MBC_18 := hid (MBC_17.out.below hh.out.2)
      have V2_18 := hid (V2_17.out.below hh.out.2)
      have BC2_18 := hid (BC2_17.out.below hh.out.2)
      have W1_18 := hid (W1_17.out.below hh.out.2)
      have MAB2_18 := hid hh.out.1
      have HW18 := hid (HW17.out.trans (hh.out.2.mono HW17.out.size))
      clear hh L_17 M_17 N_17 A_17 B_17 C_17 AB_17 U1_17 BC_17 U2_17 MAB_17 V1_17 MBC_17 V2_17 BC2_17 W1_17
      go_wp2_with fail
      refine (HM6.out _ _ _ _ _ A_18.out C_18.out).mono ?_; rintro e w19 ⟨q19, d19, rfl, hh⟩
      have L_19 := hid (L_18.out.below hh.out.2)
      have M_19 := hid (M_18.out.below hh.out.2)
      have N_19 := hid (N_18.out.below hh.out.2)
      have A_19 := hid (A_18.out.below hh.out.2)
      have B_19 := hid (B_18.out.below hh.out.2)
      have C_19 := hid (C_18.out.below hh.out.2)
      have AB_19 := hid (AB_18.out.below hh.out.2)
      have U1_19 := hid (U1_18.out.below hh.out.2)
      have BC_19 := hid (BC_18.out.below hh.out.2)
      have U2_19 := hid (U2_18.out.below hh.out.2)
      have MAB_19 := hid (MAB_18.out.below hh.out.2)
      have V1_19 := hid (V1_18.out.below hh.out.2)
      have MBC_19 := hid (MBC_18.out.below hh.out.2)
      have V2_19 := hid (V2_18.out.below hh.out.2)
      have BC2_19 := hid (BC2_18.out.below hh.out.2)
      have W1_19 := hid (W1_18.out.below hh.out.2)
      have MAB2_19 := hid (MAB2_18.out.below hh.out.2)
      have MAC_19 := hid hh.out.1
      have HW19 := hid (HW18.out.trans (hh.out.2.mono HW18.out.size))
      clear hh L_18 M_18 N_18 A_18 B_18 C_18 AB_18 U1_18 BC_18 U2_18 MAB_18 V1_18 MBC_18 V2_18 BC2_18 W1_18 MAB2_18
      go_wp2_with fail
      refine (HU5.out _ _ _ _ _ MAB2_19.out MAC_19.out).mono ?_; rintro e w20 ⟨q20, d20, rfl, hh⟩
      have L_20 := hid (L_19.out.below hh.out.2)
      have M_20 := hid (M_19.out.below hh.out.2)
      have N_20 := hid (N_19.out.below hh.out.2)
      have A_20 := hid (A_19.out.below hh.out.2)
      have B_20 := hid (B_19.out.below hh.out.2)
      have C_20 := hid (C_19.out.below hh.out.2)
      have AB_20 := hid (AB_19.out.below hh.out.2)
      have U1_20 := hid (U1_19.out.below hh.out.2)
      have BC_20 := hid (BC_19.out.below hh.out.2)
      have U2_20 := hid (U2_19.out.below hh.out.2)
      have MAB_20 := hid (MAB_19.out.below hh.out.2)
      have V1_20 := hid (V1_19.out.below hh.out.2)
      have MBC_20 := hid (MBC_19.out.below hh.out.2)
      have V2_20 := hid (V2_19.out.below hh.out.2)
      have BC2_20 := hid (BC2_19.out.below hh.out.2)
      have W1_20 := hid (W1_19.out.below hh.out.2)
      have MAB2_20 := hid (MAB2_19.out.below hh.out.2)
      have MAC_20 := hid (MAC_19.out.below hh.out.2)
      have W2_20 := hid hh.out.1
      have HW20 := hid (HW19.out.trans (hh.out.2.mono HW19.out.size))
      clear hh L_19 M_19 N_19 A_19 B_19 C_19 AB_19 U1_19 BC_19 U2_19 MAB_19 V1_19 MBC_19 V2_19 BC2_19 W1_19 MAB2_19 MAC_19
      go_wp2_with fail
      refine (HS3.out _ _ _ _ _ W1_20.out W2_20.out).mono ?_; rintro e w21 ⟨rfl, hh⟩
      have L_21 := hid (L_20.out.below hh.out)
      have M_21 := hid (M_20.out.below hh.out)
      have N_21 := hid (N_20.out.below hh.out)
      have A_21 := hid (A_20.out.below hh.out)
      have B_21 := hid (B_20.out.below hh.out)
      have C_21 := hid (C_20.out.below hh.out)
      have AB_21 := hid (AB_20.out.below hh.out)
      have U1_21 := hid (U1_20.out.below hh.out)
      have BC_21 := hid (BC_20.out.below hh.out)
      have U2_21 := hid (U2_20.out.below hh.out)
      have MAB_21 := hid (MAB_20.out.below hh.out)
      have V1_21 := hid (V1_20.out.below hh.out)
      have MBC_21 := hid (MBC_20.out.below hh.out)
      have V2_21 := hid (V2_20.out.below hh.out)
      have BC2_21 := hid (BC2_20.out.below hh.out)
      have W1_21 := hid (W1_20.out.below hh.out)
      have MAB2_21 := hid (MAB2_20.out.below hh.out)
      have MAC_21 := hid (MAC_20.out.below hh.out)
      have W2_21 := hid (W2_20.out.below hh.out)
      have HW21 := hid (HW20.out.trans (hh.out.mono HW20.out.size))
      clear hh L_20 M_20 N_20 A_20 B_20 C_20 AB_20 U1_20 BC_20 U2_20 MAB_20 V1_20 MBC_20 V2_20 BC2_20 W1_20 MAB2_20 MAC_20 W2_20
      go_wp2_with fail
      go_ret
      exact ⟨rfl, HW21.out⟩
    · have HF2 := hid (few_no p'' n.length c'' none 0 0 w (fun h => hf2 h.1) hn'' (by decide))
      go_enter Try.func3, Try.ntmps3
      go_wp2_with fail
      refine HF.out.mono ?_; rintro e w1 ⟨rfl, rfl⟩
      go_wp2_with fail
      refine HF2.out.mono ?_; rintro e w1 ⟨rfl, rfl⟩
      go_wp2_with fail
      refine (alive_any HM.out _).mono ?_; rintro e w3 ⟨rfl, hh⟩
      have HW3 := hid hh.out
      clear hh
      go_wp2_with fail
      go_ret
      exact ⟨rfl, HW3.out⟩
  · have HF := hid (few_no p l.length c p' m.length c' w hf hn hn')
    go_enter Try.func3, Try.ntmps3
    go_wp2_with fail
    refine HF.out.mono ?_; rintro e w1 ⟨rfl, rfl⟩
    go_wp2_with fail
    refine (alive_any HM.out _).mono ?_; rintro e w3 ⟨rfl, hh⟩
    have HW3 := hid hh.out
    clear hh
    go_wp2_with fail
    go_ret
    exact ⟨rfl, HW3.out⟩

end Go.Proofs.Ytpbokncojemihab
