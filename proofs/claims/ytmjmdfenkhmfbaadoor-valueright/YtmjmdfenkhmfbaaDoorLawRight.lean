/- The law of what may be: ValueRight. -/
import Derived.Test.YtmjmdfenkhmfbaaDoorLawDumps
namespace Go.Proofs.YtmjmdfenkhmfbaaDoor
open Go.RowKit

set_option maxHeartbeats 8000000 in
set_option maxRecDepth 100000 in
theorem rights_any {V : World → Prop} (M : MethV V) (m : Vl) (pp : Option Addr) (pc' : Nat) (ip : Option Addr) (ic : Nat) (w : World) (hV : V w) (hC : Came m) (hI : VI w m pp pc' ip ic) :
    Calls Tryd.prog 3 #[vv m pp pc' ip ic] w fun e w' => e = .returned (.bool true) ∧ Below w.heap.size w w' := by
  have HM := hid M
  have HV := hid hV
  have HVI := hid hI
  have HF := hid (fun W => few_any m pp pc' ip ic W hC)
  have HX := hid (val_new w m pp pc' ip ic)
  have HB := hid (below_alloc w (vob m pp pc' ip ic))
  obtain ⟨c0, c1, c2, c3, c4, c5⟩ := val_facts HX.out
  cases hf : fewB m with
  | false =>
    rw [hf] at HF
    clear M hV hI hf
    go_enter Tryd.func3, Tryd.ntmps3
    go_wp2_with fail
    refine (HF.out _).mono ?_; rintro e w1 ⟨rfl, hh⟩
    have HW1 := hid (HB.out.trans (hh.out.mono HB.out.size))
    clear hh
    go_wp2_with fail
    refine (alive_any HM.out _ (HM.out.env HV.out HW1.out)).mono ?_; rintro e w2 ⟨rfl, hh⟩
    have HW2 := hid (HW1.out.trans (hh.out.mono HW1.out.size))
    clear hh
    go_wp2_with fail
    go_ret
    exact ⟨rfl, HW2.out⟩
  | true =>
    have hSh := few_short hC hf
    have K1 := hid (fun W h k => HM.out.right m pp pc' ip ic W h hC k)
    have K2 := hid (fun W k => rright10_any m pp pc' ip ic W hSh k)
    have K3 := hid (fun W h k => HM.out.size m pp pc' ip ic W h hC k)
    have K4 := hid (fun W k => rsize_any m pp pc' ip ic W hSh k)
    have K5 := hid (fun W h => HM.out.type m pp pc' ip ic W h)
    have K6 := hid (fun W => rtype_any m pp pc' ip ic W)
    rw [hf] at HF
    generalize typeV m.kind = TY at *
    generalize ((dumpS m).length : Int) = DL at *
    generalize rightB m = R at *
    have hRR : (R == R) = true := by simp
    have hDD : (DL == DL) = true := by simp
    have hTT : (TY == TY) = true := beq_iff_eq.2 rfl
    clear M hV hI hf hSh
    go_enter Tryd.func3, Tryd.ntmps3
    go_wp2_with fail
    refine (HF.out _).mono ?_; rintro e w1 ⟨rfl, hh⟩
    have HX1 := hid ((hh.out.block w.heap.size (by simp)).trans HX.out)
    have HW1 := hid (HB.out.trans (hh.out.mono HB.out.size)).drew
    clear hh c0 c1 c2 c3 c4 c5
    go_wp2_with fail
    go_region_law (first
      | (go_simp; go_at_call 10; refine (alive_any HM.out _ (HM.out.env HV.out HW1.out)).mono ?_; rintro e w2 ⟨rfl, hh⟩; have HX2 := hid ((hh.out.block w.heap.size (Array.getElem?_eq_some_iff.1 HX1.out).1).trans HX1.out); have HW2 := hid (HW1.out.trans (hh.out.mono HW1.out.size)); clear hh; obtain ⟨x20, x21, x22, x23, x24, x25⟩ := val_facts HX2.out)
      | (go_simp; go_at_call 11; refine (K1.out _ (HM.out.env HV.out HW2.out) (HVI.out.below HW2.out)).mono ?_; rintro e w3 ⟨rfl, hh⟩; have HX3 := hid ((hh.out.block w.heap.size (Array.getElem?_eq_some_iff.1 HX2.out).1).trans HX2.out); have HW3 := hid (HW2.out.trans (hh.out.mono HW2.out.size)); clear hh; obtain ⟨x30, x31, x32, x33, x34, x35⟩ := val_facts HX3.out)
      | (go_simp; go_at_call 12; refine (K2.out _ (HVI.out.below HW3.out)).mono ?_; rintro e w4 ⟨rfl, hh⟩; have HX4 := hid ((hh.out.block w.heap.size (Array.getElem?_eq_some_iff.1 HX3.out).1).trans HX3.out); have HW4 := hid (HW3.out.trans (hh.out.mono HW3.out.size)); clear hh; obtain ⟨x40, x41, x42, x43, x44, x45⟩ := val_facts HX4.out)
      | (go_simp; go_at_call 13; refine (K3.out _ (HM.out.env HV.out HW4.out) (HVI.out.below HW4.out)).mono ?_; rintro e w5 ⟨rfl, hh⟩; have HX5 := hid ((hh.out.block w.heap.size (Array.getElem?_eq_some_iff.1 HX4.out).1).trans HX4.out); have HW5 := hid (HW4.out.trans (hh.out.mono HW4.out.size)); clear hh; obtain ⟨x50, x51, x52, x53, x54, x55⟩ := val_facts HX5.out)
      | (go_simp; go_at_call 14; refine (K4.out _ (HVI.out.below HW5.out)).mono ?_; rintro e w6 ⟨rfl, hh⟩; have HX6 := hid ((hh.out.block w.heap.size (Array.getElem?_eq_some_iff.1 HX5.out).1).trans HX5.out); have HW6 := hid (HW5.out.trans (hh.out.mono HW5.out.size)); clear hh; obtain ⟨x60, x61, x62, x63, x64, x65⟩ := val_facts HX6.out)
      | (go_simp; go_at_call 15; refine (K5.out _ (HM.out.env HV.out HW6.out)).mono ?_; rintro e w7 ⟨rfl, hh⟩; have HX7 := hid ((hh.out.block w.heap.size (Array.getElem?_eq_some_iff.1 HX6.out).1).trans HX6.out); have HW7 := hid (HW6.out.trans (hh.out.mono HW6.out.size)); clear hh; obtain ⟨x70, x71, x72, x73, x74, x75⟩ := val_facts HX7.out)
      | (go_simp; go_at_call 16; refine (K6.out _).mono ?_; rintro e w8 ⟨rfl, hh⟩; have HW8 := hid (HW7.out.trans (hh.out.mono HW7.out.size)); clear hh))
    all_goals go_wp2_with fail
    all_goals go_ret
    all_goals exact ⟨rfl, HW8.out⟩

end Go.Proofs.YtmjmdfenkhmfbaaDoor
