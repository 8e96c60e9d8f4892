/- The law of one text. -/
import Derived.Test.YtpbokncojemihaaLawRight
namespace Go.Proofs.Ytpbokncojemihaa
open Go.RowKit

set_option maxHeartbeats 4000000 in
set_option maxRecDepth 100000 in
theorem one_any (M : Meth) (p : Option Addr) (l : Row) (c : Nat) (s : Nm) (w : World) (h : Rd w p c l) (hn : l.length ≤ 9223372036854775807) :
    Calls Try.prog 4 #[.slice p l.length c, txt s] w fun e w' => e = .returned (.bool true) ∧ Below w.heap.size w w' := by
  have HM := hid M
  have H := hid h
  clear M h
  by_cases hf : l.length ≤ 1000
  · have HF := hid (few_yes p l.length c none 0 0 w hf (by decide))
    have hml := len_mk l
    have hil := len_ins s (mk l)
    have hdl := len_del s (mk l)
    have hra := Ris.mk l
    have HMk := hid fun q d W h => rmake_any q d l W h (by omega)
    generalize mk l = a at *
    have HHas := hid fun q d W h => HM.out.has q d a s W h (by omega) hra
    have HrHas := hid fun q d W h => rhas_any q d a s W h (by omega)
    generalize decide (s ∈ a) = V at *
    have hbb : (V == V) = true := by simp
    have HWi := hid fun q d W h => HM.out.with_ q d a s W h (by omega) hra
    have HrWi := hid fun q d W h => rwith_any q d a s W h (by omega)
    have HWo := hid fun q d W h => HM.out.without q d a s W h (by omega) hra
    have HrWo := hid fun q d W h => rwithout_any q d a s W h (by omega)
    have HS1 := hid fun q d q' d' W h h' => same_yes q d q' d' (ins s a) W h h' (by omega)
    have HS2 := hid fun q d q' d' W h h' => same_yes q d q' d' (del s a) W h h' (by omega)
    generalize ins s a = x at *
    generalize del s a = y at *
    go_enter Try.func4, Try.ntmps4
    go_wp2_with fail
    refine HF.out.mono ?_; rintro e w0 ⟨rfl, rfl⟩
    go_wp2_with fail
    refine (HMk.out _ _ _ H.out).mono ?_; rintro e w1 ⟨q1, d1, rfl, hh⟩
    have L_1 := hid (H.out.below hh.out.2)
    have A_1 := hid hh.out.1.rd
    have HW1 := hid hh.out.2
    clear hh
    go_wp2_with fail
    refine (alive_any HM.out.toMethB _).mono ?_; rintro e w2 ⟨rfl, hh⟩
    have L_2 := hid (L_1.out.below hh.out)
    have A_2 := hid (A_1.out.below hh.out)
    have HW2 := hid (HW1.out.trans (hh.out.mono HW1.out.size))
    clear hh L_1 A_1
    go_wp2_with fail
    refine (HHas.out _ _ _ A_2.out).mono ?_; rintro e w3 ⟨rfl, hh⟩
    have L_3 := hid (L_2.out.below hh.out)
    have A_3 := hid (A_2.out.below hh.out)
    have HW3 := hid (HW2.out.trans (hh.out.mono HW2.out.size))
    clear hh L_2 A_2
    go_wp2_with fail
    refine (HrHas.out _ _ _ A_3.out).mono ?_; rintro e w4 ⟨rfl, rfl⟩
    go_wp2_with fail
    refine (HWi.out _ _ _ A_3.out).mono ?_; rintro e w5 ⟨q5, d5, rfl, hh⟩
    have A_5 := hid (A_3.out.below hh.out.2.2)
    have X_5 := hid hh.out.1
    have HW5 := hid (HW3.out.trans (hh.out.2.2.mono HW3.out.size))
    clear hh
    go_wp2_with fail
    refine (HrWi.out _ _ _ A_5.out).mono ?_; rintro e w6 ⟨q6, d6, rfl, hh⟩
    have A_6 := hid (A_5.out.below hh.out.2)
    have X_6 := hid (X_5.out.below hh.out.2)
    have Y_6 := hid hh.out.1.rd
    have HW6 := hid (HW5.out.trans (hh.out.2.mono HW5.out.size))
    clear hh
    go_wp2_with fail
    refine (HS1.out _ _ _ _ _ X_6.out Y_6.out).mono ?_; rintro e w7 ⟨rfl, hh⟩
    have A_7 := hid (A_6.out.below hh.out)
    have HW7 := hid (HW6.out.trans (hh.out.mono HW6.out.size))
    clear hh
    go_wp2_with fail
    refine (HWo.out _ _ _ A_7.out).mono ?_; rintro e w8 ⟨q8, d8, rfl, hh⟩
    have A_8 := hid (A_7.out.below hh.out.2.2)
    have X_8 := hid hh.out.1
    have HW8 := hid (HW7.out.trans (hh.out.2.2.mono HW7.out.size))
    clear hh
    go_wp2_with fail
    refine (HrWo.out _ _ _ A_8.out).mono ?_; rintro e w9 ⟨q9, d9, rfl, hh⟩
    have X_9 := hid (X_8.out.below hh.out.2)
    have Y_9 := hid hh.out.1.rd
    have HW9 := hid (HW8.out.trans (hh.out.2.mono HW8.out.size))
    clear hh
    go_wp2_with fail
    refine (HS2.out _ _ _ _ _ X_9.out Y_9.out).mono ?_; rintro e w10 ⟨rfl, hh⟩
    have HW10 := hid (HW9.out.trans (hh.out.mono HW9.out.size))
    clear hh
    go_wp2_with fail
    go_ret
    exact ⟨rfl, HW10.out⟩
  · have HF := hid (few_no p l.length c none 0 0 w (fun h => hf h.1) hn (by decide))
    go_enter Try.func4, Try.ntmps4
    go_wp2_with fail
    refine HF.out.mono ?_; rintro e w1 ⟨rfl, rfl⟩
    go_wp2_with fail
    refine (alive_any HM.out.toMethB _).mono ?_; rintro e w3 ⟨rfl, hh⟩
    have HW3 := hid hh.out
    clear hh
    go_wp2_with fail
    go_ret
    exact ⟨rfl, HW3.out⟩

end Go.Proofs.Ytpbokncojemihaa
