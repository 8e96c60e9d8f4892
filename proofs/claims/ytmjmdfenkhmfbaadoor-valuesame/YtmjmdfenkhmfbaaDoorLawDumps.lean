/- The law of writing. -/
import Derived.Test.YtmjmdfenkhmfbaaDoorVMeth
namespace Go.Proofs.YtmjmdfenkhmfbaaDoor
open Go.RowKit

theorem few_short {m : Vl} (hC : Came m) (h : fewB m = true) : Short m := by
  unfold fewB at h
  rw [Bool.and_eq_true, decide_eq_true_eq, decide_eq_true_eq] at h
  exact hC.short (by omega) (by omega)
set_option maxHeartbeats 2000000 in
set_option maxRecDepth 100000 in
theorem dumps_any {V : World → Prop} (M : MethV V) (m : Vl) (pp : Option Addr) (pc' : Nat) (ip : Option Addr) (ic : Nat) (w : World) (hV : V w) (hC : Came m) (hI : VI w m pp pc' ip ic) :
    Calls Tryd.prog 4 #[vv m pp pc' ip ic] w fun e w' => e = .returned (.bool true) ∧ Below w.heap.size w w' := by
  have HM := hid M
  have HV := hid hV
  have HVI := hid hI
  have HF := hid (fun W => few_any m pp pc' ip ic W hC)
  have HX := hid (val_new w m pp pc' ip ic)
  have HB := hid (below_alloc w (vob m pp pc' ip ic))
  obtain ⟨c0, c1, c2, c3, c4, c5⟩ := val_facts HX.out
  have H1 := hid (fun W h k => HM.out.dump m pp pc' ip ic W h hC k)
  cases hf : fewB m with
  | false =>
    rw [hf] at HF
    clear M hV hI hf H1
    go_enter Tryd.func4, Tryd.ntmps4
    go_wp2_with fail
    refine (HF.out _).mono ?_; rintro e w1 ⟨rfl, hh⟩
    have HW1 := hid (HB.out.trans (hh.out.mono HB.out.size))
    clear hh
    go_wp2_with fail
    refine (alive_any HM.out _ (HM.out.env HV.out HW1.out)).mono ?_; rintro e w2 ⟨rfl, hh⟩
    have HW2 := hid (HW1.out.trans (hh.out.mono HW1.out.size))
    clear hh
    go_wp2_with fail
    go_ret
    exact ⟨rfl, HW2.out⟩
  | true =>
    have H2 := hid (fun W k => rdump_any m pp pc' ip ic W (few_short hC hf) k)
    rw [hf] at HF
    generalize dumpS m = D at *
    generalize rightB m = R at *
    have hRR : (R == R) = true := by simp
    have hDD : (D == D) = true := beq_iff_eq.2 rfl
    clear M hV hI hf
    go_enter Tryd.func4, Tryd.ntmps4
    go_wp2_with fail
    refine (HF.out _).mono ?_; rintro e w1 ⟨rfl, hh⟩
    have HX1 := hid ((hh.out.block w.heap.size (by simp)).trans HX.out)
    have HW1 := hid (HB.out.trans (hh.out.mono HB.out.size))
    clear hh c0 c1 c2 c3 c4 c5
    obtain ⟨c0, c1, c2, c3, c4, c5⟩ := val_facts HX1.out
    go_wp2_with fail
    refine (H1.out _ (HM.out.env HV.out HW1.out) (HVI.out.below HW1.out)).mono ?_; rintro e w2 ⟨rfl, hh⟩
    have HX2 := hid ((hh.out.block w.heap.size (Array.getElem?_eq_some_iff.1 HX1.out).1).trans HX1.out)
    have HW2 := hid (HW1.out.trans (hh.out.mono HW1.out.size))
    clear hh c0 c1 c2 c3 c4 c5
    obtain ⟨c0, c1, c2, c3, c4, c5⟩ := val_facts HX2.out
    go_wp2_with fail
    refine (H2.out _ (HVI.out.below HW2.out)).mono ?_; rintro e w3 ⟨rfl, hh⟩
    have HW3 := hid (HW2.out.trans (hh.out.mono HW2.out.size))
    clear hh c0 c1 c2 c3 c4 c5
    go_wp2_with fail
    refine (alive_any HM.out _ (HM.out.env HV.out HW3.out)).mono ?_; rintro e w4 ⟨rfl, hh⟩
    have HW4 := hid (HW3.out.trans (hh.out.mono HW3.out.size))
    clear hh
    go_wp2_with fail
    go_ret
    exact ⟨rfl, HW4.out⟩

end Go.Proofs.YtmjmdfenkhmfbaaDoor
