/- The law of any rows. -/
import Derived.Test.YtpbokncojemihaaLawRight
namespace Go.Proofs.Ytpbokncojemihaa
open Go.RowKit

set_option maxHeartbeats 4000000 in
set_option maxRecDepth 100000 in
theorem any_any (M : Meth) (A : MethAny) (p : Option Addr) (l : Row) (c : Nat) (p' : Option Addr) (m : Row) (c' : Nat) (s : Nm) (w : World) (h : Rd w p c l) (hn : l.length ≤ 1100000) (h' : Rd w p' c' m) (hn' : m.length ≤ 1100000) :
    Calls Try.prog 8 #[.slice p l.length c, .slice p' m.length c', txt s] w fun e w' => e = .returned (.bool true) ∧ Below w.heap.size w w' := by
  have HM := hid M
  have HA := hid A
  have H := hid h
  have H' := hid h'
  clear M A h h'
  have H1 := hid fun q d W h => HA.out.has q d l s W h hn
  have H2 := hid fun q d W h => HA.out.with_ q d l s W h hn
  have H3 := hid fun q d W h => HA.out.without q d l s W h hn
  have H4 := hid fun q d q' d' W h h' => HA.out.union q d l q' d' m W h h' hn hn'
  have H5 := hid fun q d q' d' W h h' => HA.out.meet q d l q' d' m W h h' hn hn'
  have H6 := hid fun q d q' d' W h h' => HA.out.less q d l q' d' m W h h' hn hn'
  have H7 := hid fun q d q' d' W h h' => HA.out.inside q d l q' d' m W h h' hn hn'
  go_enter Try.func8, Try.ntmps8
  go_wp2_with fail
  refine (H1.out _ _ _ H.out).mono ?_; rintro e w0 ⟨x0, rfl, hh⟩
  have L_0 := hid (H.out.below hh.out)
  have M_0 := hid (H'.out.below hh.out)
  have HW0 := hid hh.out
  clear hh
  go_wp2_with fail
  refine (H2.out _ _ _ L_0.out).mono ?_; rintro e w1 ⟨x1, rfl, hh⟩
  have L_1 := hid (L_0.out.below hh.out)
  have M_1 := hid (M_0.out.below hh.out)
  have HW1 := hid (HW0.out.trans (hh.out.mono HW0.out.size))
  clear hh L_0 M_0
  go_wp2_with fail
  refine (H3.out _ _ _ L_1.out).mono ?_; rintro e w2 ⟨x2, rfl, hh⟩
  have L_2 := hid (L_1.out.below hh.out)
  have M_2 := hid (M_1.out.below hh.out)
  have HW2 := hid (HW1.out.trans (hh.out.mono HW1.out.size))
  clear hh L_1 M_1
  go_wp2_with fail
  refine (H4.out _ _ _ _ _ L_2.out M_2.out).mono ?_; rintro e w3 ⟨x3, rfl, hh⟩
  have L_3 := hid (L_2.out.below hh.out)
  have M_3 := hid (M_2.out.below hh.out)
  have HW3 := hid (HW2.out.trans (hh.out.mono HW2.out.size))
  clear hh L_2 M_2
  go_wp2_with fail
  refine (H5.out _ _ _ _ _ L_3.out M_3.out).mono ?_; rintro e w4 ⟨x4, rfl, hh⟩
  have L_4 := hid (L_3.out.below hh.out)
  have M_4 := hid (M_3.out.below hh.out)
  have HW4 := hid (HW3.out.trans (hh.out.mono HW3.out.size))
  clear hh L_3 M_3
  go_wp2_with fail
  refine (H6.out _ _ _ _ _ L_4.out M_4.out).mono ?_; rintro e w5 ⟨x5, rfl, hh⟩
  have L_5 := hid (L_4.out.below hh.out)
  have M_5 := hid (M_4.out.below hh.out)
  have HW5 := hid (HW4.out.trans (hh.out.mono HW4.out.size))
  clear hh L_4 M_4
  go_wp2_with fail
  refine (H7.out _ _ _ _ _ L_5.out M_5.out).mono ?_; rintro e w6 ⟨x6, rfl, hh⟩
  have L_6 := hid (L_5.out.below hh.out)
  have M_6 := hid (M_5.out.below hh.out)
  have HW6 := hid (HW5.out.trans (hh.out.mono HW5.out.size))
  clear hh L_5 M_5
  go_wp2_with fail
  refine (alive_any HM.out.toMethB _).mono ?_; rintro e w7 ⟨rfl, hh⟩
  have L_7 := hid (L_6.out.below hh.out)
  have M_7 := hid (M_6.out.below hh.out)
  have HW7 := hid (HW6.out.trans (hh.out.mono HW6.out.size))
  clear hh L_6 M_6
  go_wp2_with fail
  go_ret
  exact ⟨rfl, HW7.out⟩

end Go.Proofs.Ytpbokncojemihaa
