/- The law of what is a set. -/
import Derived.Test.YtpbokncojemihaaMeth
namespace Go.Proofs.Ytpbokncojemihaa
open Go.RowKit

set_option maxHeartbeats 2000000 in
set_option maxRecDepth 100000 in
theorem right_any (M : Meth) (p : Option Addr) (l : Row) (c : Nat) (w : World) (h : Rd w p c l) (hn : l.length ≤ 9223372036854775807) :
    Calls Try.prog 3 #[.slice p l.length c] w fun e w' => e = .returned (.bool true) ∧ Below w.heap.size w w' := by
  have HM := hid M
  have H := hid h
  clear M h
  by_cases hf : l.length ≤ 1000
  · have HF := hid (few_yes p l.length c none 0 0 w hf (by decide))
    have HMk := hid (HM.out.make p c l w H.out (by omega))
    have HR1 := hid fun W h => HM.out.right p c l W h (by omega)
    have HR2 := hid fun W h => rright_any p c l W h (by omega)
    have HM2 := hid fun W h => rmake_any p c l W h (by omega)
    have hml := len_mk l
    have HR3 := hid fun q d W h => HM.out.right q d (mk l) W h (by omega)
    have HSm := hid fun q d q' d' W h h' => same_yes q d q' d' (mk l) W h h' (by omega)
    have HRm := hid (Ris.mk l)
    generalize mk l = m at *
    go_enter Try.func3, Try.ntmps3
    go_wp2_with fail
    refine HF.out.mono ?_; rintro e w1 ⟨rfl, rfl⟩
    go_wp2_with fail
    refine HMk.out.mono ?_; rintro e w2 ⟨q, d, rfl, hh⟩
    have Hm := hid hh.out.1
    have Hl := hid (H.out.below hh.out.2)
    have HW := hid hh.out.2
    clear hh
    go_wp2_with fail
    refine (alive_any HM.out.toMethB _).mono ?_; rintro e w3 ⟨rfl, hh⟩
    have Hm3 := hid (Hm.out.below hh.out)
    have Hl3 := hid (Hl.out.below hh.out)
    have HW3 := hid (HW.out.trans (hh.out.mono HW.out.size))
    clear hh
    go_wp2_with fail
    refine (HR1.out _ Hl3.out).mono ?_; rintro e w4 ⟨V, rfl, hh⟩
    have HV := hid hh.out.1
    have Hm4 := hid (Hm3.out.below hh.out.2)
    have Hl4 := hid (Hl3.out.below hh.out.2)
    have HW4 := hid (HW3.out.trans (hh.out.2.mono HW3.out.size))
    clear hh
    go_wp2_with fail
    refine (HR2.out _ Hl4.out).mono ?_; rintro e w5 ⟨V', rfl, hh⟩
    obtain rfl : V' = V := by
      have h1 := HV.out
      have h2 := hh.out.1
      cases V <;> cases V' <;> simp_all
    have Hm5 := hid (Hm4.out.below hh.out.2)
    have Hl5 := hid (Hl4.out.below hh.out.2)
    have HW5 := hid (HW4.out.trans (hh.out.2.mono HW4.out.size))
    clear hh
    have hbb : (V' == V') = true := by simp
    go_wp2_with fail
    refine (HM2.out _ Hl5.out).mono ?_; rintro e w6 ⟨q6, d6, rfl, hh⟩
    have Hr6 := hid hh.out.1.rd
    have Hm6 := hid (Hm5.out.below hh.out.2)
    have HW6 := hid (HW5.out.trans (hh.out.2.mono HW5.out.size))
    clear hh
    go_wp2_with fail
    refine (HSm.out _ _ _ _ _ Hm6.out Hr6.out).mono ?_; rintro e w7 ⟨rfl, hh⟩
    have Hm7 := hid (Hm6.out.below hh.out)
    have HW7 := hid (HW6.out.trans (hh.out.mono HW6.out.size))
    clear hh
    go_wp2_with fail
    refine (HR3.out _ _ _ Hm7.out).mono ?_; rintro e w8 ⟨V8, rfl, hh⟩
    obtain rfl : V8 = true := hh.out.1.2 HRm.out
    have HW8 := hid (HW7.out.trans (hh.out.2.mono HW7.out.size))
    clear hh
    go_wp2_with fail
    go_ret
    exact ⟨rfl, HW8.out⟩
  · have HF := hid (few_no p l.length c none 0 0 w (fun h => hf h.1) hn (by decide))
    go_enter Try.func3, Try.ntmps3
    go_wp2_with fail
    refine HF.out.mono ?_; rintro e w1 ⟨rfl, rfl⟩
    go_wp2_with fail
    refine (alive_any HM.out.toMethB _).mono ?_; rintro e w3 ⟨rfl, hh⟩
    have HW3 := hid hh.out
    clear hh
    go_wp2_with fail
    go_ret
    exact ⟨rfl, HW3.out⟩

end Go.Proofs.Ytpbokncojemihaa
