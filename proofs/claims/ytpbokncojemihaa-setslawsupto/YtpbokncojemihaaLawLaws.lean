/- The laws of two sets. -/
import Derived.Test.YtpbokncojemihaaLawRight
namespace Go.Proofs.Ytpbokncojemihaa
open Go.RowKit

set_option maxHeartbeats 4000000 in
set_option maxRecDepth 100000 in
theorem laws_any (M : Meth) (p : Option Addr) (l : Row) (c : Nat) (p' : Option Addr) (m : Row) (c' : Nat) (w : World) (h : Rd w p c l) (hn : l.length ≤ 1100000) (h' : Rd w p' c' m) (hn' : m.length ≤ 1100000) :
    Calls Try.prog 6 #[.slice p l.length c, .slice p' m.length c'] w fun e w' => e = .returned (.bool true) ∧ Below w.heap.size w w' := by
  have HM := hid M
  have H := hid h
  have H' := hid h'
  clear M h h'
  have hml := len_mk l
  have hmm := len_mk m
  have hra := Ris.mk l
  have hrb := Ris.mk m
  have HMk := hid fun q d W h => HM.out.make q d l W h hn
  have HMm := hid fun q d W h => HM.out.make q d m W h hn'
  generalize mk l = a at *
  generalize mk m = b at *
  have hul := len_insAll b a
  have hme := len_meet a b
  have hle := len_less a b
  have HU1 := hid fun q d q' d' W h h' => HM.out.union q d a q' d' b W h h' (by omega) (by omega) hra hrb
  have HU2 := hid fun q d q' d' W h h' => HM.out.union q d b q' d' a W h h' (by omega) (by omega) hrb hra
  rw [← union_comm hra hrb] at HU2
  have HM1 := hid fun q d q' d' W h h' => HM.out.meet q d a q' d' b W h h' (by omega) (by omega) hra hrb
  have HM2 := hid fun q d q' d' W h h' => HM.out.meet q d b q' d' a W h h' (by omega) (by omega) hrb hra
  rw [← meet_comm hra hrb] at HM2
  have HL1 := hid fun q d q' d' W h h' => HM.out.less q d a q' d' b W h h' (by omega) (by omega) hra hrb
  have HU3 := hid fun q d q' d' W h h' => HM.out.union q d (less a b) q' d' (meet a b) W h h' (by omega) (by omega) (hra.less b) (hra.meet b)
  rw [less_meet hra b] at HU3
  have HM3 := hid fun q d q' d' W h h' => HM.out.meet q d (less a b) q' d' (meet a b) W h h' (by omega) (by omega) (hra.less b) (hra.meet b)
  rw [meet_none a b] at HM3
  have HIn := hid fun q d q' d' W h h' => HM.out.inside q d a q' d' b W h h' (by omega) (by omega) hra hrb
  have HS1 := hid fun q d q' d' W h h' => same_yes q d q' d' (insAll a b) W h h' (by omega)
  have HS2 := hid fun q d q' d' W h h' => same_yes q d q' d' (meet a b) W h h' (by omega)
  have HS3 := hid fun q d q' d' W h h' => same_yes q d q' d' a W h h' (by omega)
  have HS4 := hid fun q d q' d' W (h : Rd W q d (meet a b)) (h' : Rd W q' d' a) => same_any q d q' d' (meet a b) a W h.strs h'.strs (by omega)
  have HE : Hid (meet a b = a ↔ ∀ x ∈ a, x ∈ b) := meet_all
  generalize insAll a b = x at *
  generalize meet a b = y at *
  generalize less a b = z at *
  have HD : Hid (∀ V : Bool, (V = true ↔ ∀ x ∈ a, x ∈ b) → (V == decide (y = a)) = true) := fun V h1 => by
    have h2 := HE.out
    by_cases hz : y = a
    · rw [h1.2 (h2.1 hz)]; simp [hz]
    · have : V = false := by cases hv : V with | false => rfl | true => exact absurd (h2.2 (h1.1 hv)) hz
      rw [this]; simp [hz]
  generalize decide (y = a) = D at *
  go_enter Try.func6, Try.ntmps6
  go_wp2_with fail
  refine (HMk.out _ _ _ H.out).mono ?_; rintro e w0 ⟨q0, d0, rfl, hh⟩
  have L_0 := hid (H.out.below hh.out.2)
  have M_0 := hid (H'.out.below hh.out.2)
  have A_0 := hid hh.out.1
  have HW0 := hid hh.out.2
  clear hh
  go_wp2_with fail
  refine (HMm.out _ _ _ M_0.out).mono ?_; rintro e w1 ⟨q1, d1, rfl, hh⟩
  have L_1 := hid (L_0.out.below hh.out.2)
  have M_1 := hid (M_0.out.below hh.out.2)
  have A_1 := hid (A_0.out.below hh.out.2)
  have B_1 := hid hh.out.1
  have HW1 := hid (HW0.out.trans (hh.out.2.mono HW0.out.size))
  clear hh L_0 M_0 A_0
  go_wp2_with fail
  refine (HL1.out _ _ _ _ _ A_1.out B_1.out).mono ?_; rintro e w2 ⟨q2, d2, rfl, hh⟩
  have L_2 := hid (L_1.out.below hh.out.2)
  have M_2 := hid (M_1.out.below hh.out.2)
  have A_2 := hid (A_1.out.below hh.out.2)
  have B_2 := hid (B_1.out.below hh.out.2)
  have X_2 := hid hh.out.1
  have HW2 := hid (HW1.out.trans (hh.out.2.mono HW1.out.size))
  clear hh L_1 M_1 A_1 B_1
  go_wp2_with fail
  refine (HM1.out _ _ _ _ _ A_2.out B_2.out).mono ?_; rintro e w3 ⟨q3, d3, rfl, hh⟩
  have L_3 := hid (L_2.out.below hh.out.2)
  have M_3 := hid (M_2.out.below hh.out.2)
  have A_3 := hid (A_2.out.below hh.out.2)
  have B_3 := hid (B_2.out.below hh.out.2)
  have X_3 := hid (X_2.out.below hh.out.2)
  have Y_3 := hid hh.out.1
  have HW3 := hid (HW2.out.trans (hh.out.2.mono HW2.out.size))
  clear hh L_2 M_2 A_2 B_2 X_2
  go_wp2_with fail
  refine (alive_any HM.out.toMethB _).mono ?_; rintro e w4 ⟨rfl, hh⟩
  have L_4 := hid (L_3.out.below hh.out)
  have M_4 := hid (M_3.out.below hh.out)
  have A_4 := hid (A_3.out.below hh.out)
  have B_4 := hid (B_3.out.below hh.out)
  have X_4 := hid (X_3.out.below hh.out)
  have Y_4 := hid (Y_3.out.below hh.out)
  have HW4 := hid (HW3.out.trans (hh.out.mono HW3.out.size))
  clear hh L_3 M_3 A_3 B_3 X_3 Y_3
  go_wp2_with fail
  refine (HU1.out _ _ _ _ _ A_4.out B_4.out).mono ?_; rintro e w5 ⟨q5, d5, rfl, hh⟩
  have L_5 := hid (L_4.out.below hh.out.2)
  have M_5 := hid (M_4.out.below hh.out.2)
  have A_5 := hid (A_4.out.below hh.out.2)
  have B_5 := hid (B_4.out.below hh.out.2)
  have X_5 := hid (X_4.out.below hh.out.2)
  have Y_5 := hid (Y_4.out.below hh.out.2)
  have U1_5 := hid hh.out.1
  have HW5 := hid (HW4.out.trans (hh.out.2.mono HW4.out.size))
  clear hh L_4 M_4 A_4 B_4 X_4 Y_4
  go_wp2_with fail
  refine (HU2.out _ _ _ _ _ B_5.out A_5.out).mono ?_; rintro e w6 ⟨q6, d6, rfl, hh⟩
  have L_6 := hid (L_5.out.below hh.out.2)
  have M_6 := hid (M_5.out.below hh.out.2)
  have A_6 := hid (A_5.out.below hh.out.2)
  have B_6 := hid (B_5.out.below hh.out.2)
  have X_6 := hid (X_5.out.below hh.out.2)
  have Y_6 := hid (Y_5.out.below hh.out.2)
  have U1_6 := hid (U1_5.out.below hh.out.2)
  have U2_6 := hid hh.out.1
  have HW6 := hid (HW5.out.trans (hh.out.2.mono HW5.out.size))
  clear hh L_5 M_5 A_5 B_5 X_5 Y_5 U1_5
  go_wp2_with fail
  refine (HS1.out _ _ _ _ _ U1_6.out U2_6.out).mono ?_; rintro e w7 ⟨rfl, hh⟩
  have L_7 := hid (L_6.out.below hh.out)
  have M_7 := hid (M_6.out.below hh.out)
  have A_7 := hid (A_6.out.below hh.out)
  have B_7 := hid (B_6.out.below hh.out)
  have X_7 := hid (X_6.out.below hh.out)
  have Y_7 := hid (Y_6.out.below hh.out)
  have U1_7 := hid (U1_6.out.below hh.out)
  have U2_7 := hid (U2_6.out.below hh.out)
  have HW7 := hid (HW6.out.trans (hh.out.mono HW6.out.size))
  clear hh L_6 M_6 A_6 B_6 X_6 Y_6 U1_6 U2_6
  go_wp2_with fail
  refine (HM2.out _ _ _ _ _ B_7.out A_7.out).mono ?_; rintro e w8 ⟨q8, d8, rfl, hh⟩
  have L_8 := hid (L_7.out.below hh.out.2)
  have M_8 := hid (M_7.out.below hh.out.2)
  have A_8 := hid (A_7.out.below hh.out.2)
  have B_8 := hid (B_7.out.below hh.out.2)
  have X_8 := hid (X_7.out.below hh.out.2)
  have Y_8 := hid (Y_7.out.below hh.out.2)
  have U1_8 := hid (U1_7.out.below hh.out.2)
  have U2_8 := hid (U2_7.out.below hh.out.2)
  have Y2_8 := hid hh.out.1
  have HW8 := hid (HW7.out.trans (hh.out.2.mono HW7.out.size))
  clear hh L_7 M_7 A_7 B_7 X_7 Y_7 U1_7 U2_7
  go_wp2_with fail
  refine (HS2.out _ _ _ _ _ Y_8.out Y2_8.out).mono ?_; rintro e w9 ⟨rfl, hh⟩
  have L_9 := hid (L_8.out.below hh.out)
  have M_9 := hid (M_8.out.below hh.out)
  have A_9 := hid (A_8.out.below hh.out)
  have B_9 := hid (B_8.out.below hh.out)
  have X_9 := hid (X_8.out.below hh.out)
  have Y_9 := hid (Y_8.out.below hh.out)
  have U1_9 := hid (U1_8.out.below hh.out)
  have U2_9 := hid (U2_8.out.below hh.out)
  have Y2_9 := hid (Y2_8.out.below hh.out)
  have HW9 := hid (HW8.out.trans (hh.out.mono HW8.out.size))
  clear hh L_8 M_8 A_8 B_8 X_8 Y_8 U1_8 U2_8 Y2_8
  go_wp2_with fail
  refine (HU3.out _ _ _ _ _ X_9.out Y_9.out).mono ?_; rintro e w10 ⟨q10, d10, rfl, hh⟩
  have L_10 := hid (L_9.out.below hh.out.2)
  have M_10 := hid (M_9.out.below hh.out.2)
  have A_10 := hid (A_9.out.below hh.out.2)
  have B_10 := hid (B_9.out.below hh.out.2)
  have X_10 := hid (X_9.out.below hh.out.2)
  have Y_10 := hid (Y_9.out.below hh.out.2)
  have U1_10 := hid (U1_9.out.below hh.out.2)
  have U2_10 := hid (U2_9.out.below hh.out.2)
  have Y2_10 := hid (Y2_9.out.below hh.out.2)
  have U3_10 := hid hh.out.1
  have HW10 := hid (HW9.out.trans (hh.out.2.mono HW9.out.size))
  clear hh L_9 M_9 A_9 B_9 X_9 Y_9 U1_9 U2_9 Y2_9
  go_wp2_with fail
  refine (HS3.out _ _ _ _ _ U3_10.out A_10.out).mono ?_; rintro e w11 ⟨rfl, hh⟩
  have L_11 := hid (L_10.out.below hh.out)
  have M_11 := hid (M_10.out.below hh.out)
  have A_11 := hid (A_10.out.below hh.out)
  have B_11 := hid (B_10.out.below hh.out)
  have X_11 := hid (X_10.out.below hh.out)
  have Y_11 := hid (Y_10.out.below hh.out)
  have U1_11 := hid (U1_10.out.below hh.out)
  have U2_11 := hid (U2_10.out.below hh.out)
  have Y2_11 := hid (Y2_10.out.below hh.out)
  have U3_11 := hid (U3_10.out.below hh.out)
  have HW11 := hid (HW10.out.trans (hh.out.mono HW10.out.size))
  clear hh L_10 M_10 A_10 B_10 X_10 Y_10 U1_10 U2_10 Y2_10 U3_10
  go_wp2_with fail
  refine (HM3.out _ _ _ _ _ X_11.out Y_11.out).mono ?_; rintro e w12 ⟨q12, d12, rfl, hh⟩
  have L_12 := hid (L_11.out.below hh.out.2)
  have M_12 := hid (M_11.out.below hh.out.2)
  have A_12 := hid (A_11.out.below hh.out.2)
  have B_12 := hid (B_11.out.below hh.out.2)
  have X_12 := hid (X_11.out.below hh.out.2)
  have Y_12 := hid (Y_11.out.below hh.out.2)
  have U1_12 := hid (U1_11.out.below hh.out.2)
  have U2_12 := hid (U2_11.out.below hh.out.2)
  have Y2_12 := hid (Y2_11.out.below hh.out.2)
  have U3_12 := hid (U3_11.out.below hh.out.2)
  have N_12 := hid hh.out.1
  have HW12 := hid (HW11.out.trans (hh.out.2.mono HW11.out.size))
  clear hh L_11 M_11 A_11 B_11 X_11 Y_11 U1_11 U2_11 Y2_11 U3_11
  go_wp2_with fail
  refine (HIn.out _ _ _ _ _ A_12.out B_12.out).mono ?_; rintro e w13 ⟨V13, rfl, hh⟩
  have L_13 := hid (L_12.out.below hh.out.2)
  have M_13 := hid (M_12.out.below hh.out.2)
  have A_13 := hid (A_12.out.below hh.out.2)
  have B_13 := hid (B_12.out.below hh.out.2)
  have X_13 := hid (X_12.out.below hh.out.2)
  have Y_13 := hid (Y_12.out.below hh.out.2)
  have U1_13 := hid (U1_12.out.below hh.out.2)
  have U2_13 := hid (U2_12.out.below hh.out.2)
  have Y2_13 := hid (Y2_12.out.below hh.out.2)
  have U3_13 := hid (U3_12.out.below hh.out.2)
  have N_13 := hid (N_12.out.below hh.out.2)
  have HV13 := hid hh.out.1
  have HW13 := hid (HW12.out.trans (hh.out.2.mono HW12.out.size))
  clear hh L_12 M_12 A_12 B_12 X_12 Y_12 U1_12 U2_12 Y2_12 U3_12 N_12
  have hin := HD.out _ HV13.out
  go_wp2_with fail
  refine (HS4.out _ _ _ _ _ Y_13.out A_13.out).mono ?_; rintro e w14 ⟨rfl, hh⟩
  have L_14 := hid (L_13.out.below hh.out)
  have M_14 := hid (M_13.out.below hh.out)
  have A_14 := hid (A_13.out.below hh.out)
  have B_14 := hid (B_13.out.below hh.out)
  have X_14 := hid (X_13.out.below hh.out)
  have Y_14 := hid (Y_13.out.below hh.out)
  have U1_14 := hid (U1_13.out.below hh.out)
  have U2_14 := hid (U2_13.out.below hh.out)
  have Y2_14 := hid (Y2_13.out.below hh.out)
  have U3_14 := hid (U3_13.out.below hh.out)
  have N_14 := hid (N_13.out.below hh.out)
  have HW14 := hid (HW13.out.trans (hh.out.mono HW13.out.size))
  clear hh L_13 M_13 A_13 B_13 X_13 Y_13 U1_13 U2_13 Y2_13 U3_13 N_13
  go_wp2_with fail
  go_ret
  exact ⟨rfl, HW14.out⟩

end Go.Proofs.Ytpbokncojemihaa
