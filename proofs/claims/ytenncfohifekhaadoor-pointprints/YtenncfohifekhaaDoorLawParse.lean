/- The laws of writing and reading. -/
import Derived.Test.YtenncfohifekhaaDoorPMeth
import Derived.Test.YtenncfohifekhaaDoorPParse2
import Derived.Test.YtenncfohifekhaaDoorRefParse
namespace Go.Proofs.YtenncfohifekhaaDoor
open Go.RowKit

theorem methA : MethP EnvA := meth_of (fun h hb => h.below hb) (fun h => h.env)

set_option maxHeartbeats 2000000 in
set_option maxRecDepth 100000 in
theorem parses_any (M : MethP EnvA) (s : List UInt8) (w : World) (hV : EnvA w) (hl : s.length ≤ 140737488351232) :
    Calls Tryd.prog 8 #[.string ⟨s.toArray⟩] w fun e w' => e = .returned (.bool true) ∧ Below w.heap.size w w' := by
  have HM := hid M
  have HV := hid hV
  have H1 := hid fun W h => pparse_any s W h (by omega)
  have H2 := hid fun W => rparse_any s W (by omega)
  generalize parseP s = T at *
  obtain ⟨tx, ty, te⟩ := T
  clear M hV
  go_enter Tryd.func8, Tryd.ntmps8
  go_wp2_with fail
  refine (H1.out _ HV.out).mono ?_; rintro e w1 ⟨rfl, hh⟩
  have HT1 := hid (pt_new w1 tx ty)
  have HW1 := hid (hh.out.trans ((below_alloc w1 (pc tx ty)).mono hh.out.size))
  clear hh
  go_wp2_with fail
  refine (H2.out _).mono ?_; rintro e w2 ⟨rfl, hh⟩
  have HT2 := hid ((heap_alloc_old w2 (pc tx ty) (show w1.heap.size < w2.heap.size by have := hh.out.size; simp at this; omega)).trans ((hh.out.block w1.heap.size (by simp)).trans HT1.out))
  have HU2 := hid (pt_new w2 tx ty)
  have HW2 := hid (HW1.out.trans (hh.out.mono HW1.out.size))
  have HW3 := hid (HW2.out.trans ((below_alloc w2 (pc tx ty)).mono HW2.out.size))
  clear hh
  go_wp2_with fail
  refine (alive_any HM.out _ (HM.out.env HV.out HW3.out)).mono ?_; rintro e w3 ⟨rfl, hh⟩
  have HT3 := hid ((hh.out.block w1.heap.size (by have := (Array.getElem?_eq_some_iff.1 HT2.out).1; exact this)).trans HT2.out)
  have HU3 := hid ((hh.out.block w2.heap.size (by simp)).trans HU2.out)
  have HW4 := hid (HW3.out.trans (hh.out.mono HW3.out.size))
  clear hh
  obtain ⟨⟨t0, t1⟩, -⟩ := pt_facts HT3.out
  obtain ⟨⟨u0, u1⟩, -⟩ := pt_facts HU3.out
  go_wp2_with fail
  go_ret
  exact ⟨rfl, HW4.out⟩

set_option maxHeartbeats 2000000 in
set_option maxRecDepth 100000 in
theorem prints_any (M : MethP EnvA) (x y : Int) (w : World) (hV : EnvA w) :
    Calls Tryd.prog 7 #[pv x y] w fun e w' => e = .returned (.bool true) ∧ Below w.heap.size w w' := by
  have HM := hid M
  have HV := hid hV
  have HX := hid (pt_new w x y)
  have HB := hid (below_alloc w (pc x y))
  obtain ⟨⟨c0, c1⟩, -⟩ := pt_facts HX.out
  have HP := hid fun W h => HM.out.print x y W h
  have HQ := hid fun W => rprint_any x y W
  have HR := hid fun W => rright_any x y W
  have hlen : (printP x y).length ≤ 100 := by
    unfold printP
    split
    · rename_i h
      obtain ⟨x0, x1, y0, y1⟩ := rt_iff.1 h
      have h1 := part_len x0 x1
      have h2 := part_len y0 y1
      unfold wrt signY
      split <;> simp <;> omega
    · simp
  have H1 := hid fun W h => pparse_any (printP x y) W h (by omega)
  clear M hV
  by_cases h : rt x y = true
  · rw [h] at HR
    have hw : Wr (printP x y) x y := ⟨h, by unfold printP; rw [if_pos h]⟩
    rw [parse_is hw] at H1
    clear h hw hlen
    generalize printP x y = PR at *
    have hq : (PR == PR) = true := beq_iff_eq.2 rfl
    go_enter Tryd.func7, Tryd.ntmps7
    go_wp2_with fail
    refine (HP.out _ (HM.out.env HV.out HB.out)).mono ?_; rintro e w1 ⟨rfl, hh⟩
    have HX1 := hid ((hh.out.block w.heap.size (by simp)).trans HX.out)
    have HW1 := hid (HB.out.trans (hh.out.mono HB.out.size))
    clear hh c0 c1
    go_wp2_with fail
    refine (H1.out _ (HM.out.env HV.out HW1.out)).mono ?_; rintro e w2 ⟨rfl, hh⟩
    have hx2 := (hh.out.block w.heap.size (Array.getElem?_eq_some_iff.1 HX1.out).1).trans HX1.out
    have HX2 := hid ((heap_alloc_old w2 (pc x y) (Array.getElem?_eq_some_iff.1 hx2).1).trans hx2)
    have HU2 := hid (pt_new w2 x y)
    have HW2 := hid (HW1.out.trans (hh.out.mono HW1.out.size))
    have HW3 := hid (HW2.out.trans ((below_alloc w2 (pc x y)).mono HW2.out.size))
    clear hh hx2
    obtain ⟨⟨c0, c1⟩, -⟩ := pt_facts HX2.out
    go_wp2_with fail
    refine (HR.out _).mono ?_; rintro e w3 ⟨rfl, hh⟩
    have HX3 := hid ((hh.out.block w.heap.size (Array.getElem?_eq_some_iff.1 HX2.out).1).trans HX2.out)
    have HU3 := hid ((hh.out.block w2.heap.size (by simp)).trans HU2.out)
    have HW4 := hid (HW3.out.trans (hh.out.mono HW3.out.size))
    clear hh c0 c1
    go_wp2_with fail
    refine (alive_any HM.out _ (HM.out.env HV.out HW4.out)).mono ?_; rintro e w4 ⟨rfl, hh⟩
    have HX4 := hid ((hh.out.block w.heap.size (Array.getElem?_eq_some_iff.1 HX3.out).1).trans HX3.out)
    have HU4 := hid ((hh.out.block w2.heap.size (Array.getElem?_eq_some_iff.1 HU3.out).1).trans HU3.out)
    have HW5 := hid (HW4.out.trans (hh.out.mono HW4.out.size))
    clear hh
    obtain ⟨⟨c0, c1⟩, -⟩ := pt_facts HX4.out
    go_wp2_with fail
    refine (HQ.out _).mono ?_; rintro e w5 ⟨rfl, hh⟩
    have HX5 := hid ((hh.out.block w.heap.size (Array.getElem?_eq_some_iff.1 HX4.out).1).trans HX4.out)
    have HU5 := hid ((hh.out.block w2.heap.size (Array.getElem?_eq_some_iff.1 HU4.out).1).trans HU4.out)
    have HW6 := hid (HW5.out.trans (hh.out.mono HW5.out.size))
    clear hh c0 c1
    obtain ⟨⟨c0, c1⟩, -⟩ := pt_facts HX5.out
    obtain ⟨⟨d0, d1⟩, -⟩ := pt_facts HU5.out
    go_wp2_with fail
    go_ret
    exact ⟨rfl, HW6.out⟩
  · have h' : rt x y = false := by simpa using h
    rw [h'] at HR
    rw [show printP x y = [] from if_neg h] at HP H1
    rw [parse_none (s := []) (fun u v k => wrt_ne u v k.2)] at H1
    clear h h' hlen HQ
    go_enter Tryd.func7, Tryd.ntmps7
    go_wp2_with fail
    refine (HP.out _ (HM.out.env HV.out HB.out)).mono ?_; rintro e w1 ⟨rfl, hh⟩
    have HX1 := hid ((hh.out.block w.heap.size (by simp)).trans HX.out)
    have HW1 := hid (HB.out.trans (hh.out.mono HB.out.size))
    clear hh c0 c1
    go_wp2_with fail
    refine (H1.out _ (HM.out.env HV.out HW1.out)).mono ?_; rintro e w2 ⟨rfl, hh⟩
    have hx2 := (hh.out.block w.heap.size (Array.getElem?_eq_some_iff.1 HX1.out).1).trans HX1.out
    have HX2 := hid ((heap_alloc_old w2 (pc 0 0) (Array.getElem?_eq_some_iff.1 hx2).1).trans hx2)
    have HW2 := hid (HW1.out.trans (hh.out.mono HW1.out.size))
    have HW3 := hid (HW2.out.trans ((below_alloc w2 (pc 0 0)).mono HW2.out.size))
    clear hh hx2
    obtain ⟨⟨c0, c1⟩, -⟩ := pt_facts HX2.out
    go_wp2_with fail
    refine (HR.out _).mono ?_; rintro e w3 ⟨rfl, hh⟩
    have HW4 := hid (HW3.out.trans (hh.out.mono HW3.out.size))
    clear hh c0 c1
    go_wp2_with fail
    refine (alive_any HM.out _ (HM.out.env HV.out HW4.out)).mono ?_; rintro e w4 ⟨rfl, hh⟩
    have HW5 := hid (HW4.out.trans (hh.out.mono HW4.out.size))
    clear hh
    go_wp2_with fail
    go_ret
    exact ⟨rfl, HW5.out⟩

end Go.Proofs.YtenncfohifekhaaDoor
