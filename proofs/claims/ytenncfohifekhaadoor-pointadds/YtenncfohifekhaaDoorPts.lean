/- The document's may, Add, Times. -/
import Derived.Test.YtenncfohifekhaaDoorPtsB
namespace Go.Proofs.YtenncfohifekhaaDoor
open Go.RowKit

set_option maxHeartbeats 1000000 in
set_option maxRecDepth 100000 in
/-- ref may -/
theorem rmay_any (x y : Int) (w : World) : Calls Tryd.prog 26 #[pv x y] w fun e w' => e = .returned (tv (may x y)) ∧ Hid (Below w.heap.size w w') := by
  have HR := hid (fun W => rright_any x y W)
  have HA := hid (al2 w (pc x y) (pc 0 0))
  by_cases h : rt x y = true
  · rw [show may x y = ⟨x, y, 0⟩ from if_pos h]
    rw [h] at HR
    clear h
    go_enter Tryd.func26, Tryd.ntmps26
    go_wp2_with fail
    refine (HR.out _).mono ?_; rintro e w1 ⟨rfl, hh⟩
    obtain ⟨⟨c0, c1⟩, -⟩ := pt_facts ((hh.out.block w.heap.size (by simp; omega)).trans HA.out.2.1)
    have hb := (hh.out.block (w.heap.size + 1) (by simp)).trans HA.out.2.2.1
    obtain ⟨⟨d0, d1⟩, f0, f1⟩ := pt_facts hb
    have HB := hid hb
    have HW := hid (HA.out.1.trans (hh.out.mono HA.out.1.size))
    clear hh hb
    go_wp2_with fail
    refine bodyPost_ret (v := tv ⟨x, y, 0⟩) ?_ rfl ?_
    · exact ret_tel rfl rfl rfl (heap_setCell_same _ (w.heap.size + 1) 1 _ _ _ (heap_setCell_same _ (w.heap.size + 1) 0 _ _ _ HB.out))
    · exact ⟨rfl, (HW.out.setCell (p := ⟨w.heap.size + 1, 0, none⟩) (by simp) _).setCell (p := ⟨w.heap.size + 1, 1, none⟩) (by simp) _⟩
  · have h' : rt x y = false := by simpa using h
    rw [show may x y = ⟨0, 0, 91⟩ from if_neg h]
    rw [h'] at HR
    clear h h'
    go_enter Tryd.func26, Tryd.ntmps26
    go_wp2_with fail
    refine (HR.out _).mono ?_; rintro e w1 ⟨rfl, hh⟩
    have hb := (hh.out.block (w.heap.size + 1) (by simp)).trans HA.out.2.2.1
    obtain ⟨⟨d0, d1⟩, f0, f1⟩ := pt_facts hb
    have HB := hid hb
    have HW := hid (HA.out.1.trans (hh.out.mono HA.out.1.size))
    clear hh hb
    go_wp2_with fail
    refine bodyPost_ret (v := tv ⟨0, 0, 91⟩) ?_ rfl ?_
    · exact ret_tel rfl rfl rfl (heap_setCell_same _ (w.heap.size + 1) 1 _ _ _ (heap_setCell_same _ (w.heap.size + 1) 0 _ _ _ HB.out))
    · exact ⟨rfl, (HW.out.setCell (p := ⟨w.heap.size + 1, 0, none⟩) (by simp) _).setCell (p := ⟨w.heap.size + 1, 1, none⟩) (by simp) _⟩

set_option maxHeartbeats 2000000 in
set_option maxRecDepth 100000 in
/-- ref add -/
theorem radd_any (a b c d : Int) (w : World) : Calls Tryd.prog 10 #[pv a b, pv c d] w fun e w' => e = .returned (tv (addP a b c d)) ∧ Hid (Below w.heap.size w w') := by
  have HR1 := hid (fun W => rright_any a b W)
  have HR2 := hid (fun W => rright_any c d W)
  have HA := hid (al3 w (pc a b) (pc c d) (pc 0 0))
  by_cases h1 : rt a b = true
  · rw [h1] at HR1
    by_cases h2 : rt c d = true
    · rw [h2] at HR2
      rw [show addP a b c d = may (a + c) (b + d) by unfold addP; rw [h1, h2]; rfl]
      obtain ⟨a0, a1, b0, b1⟩ := rt_iff.1 h1
      obtain ⟨c0, c1, d0, d1⟩ := rt_iff.1 h2
      have HMy := hid (fun W => rmay_any (a + c) (b + d) W)
      obtain ⟨T, hT⟩ : ∃ T, T = may (a + c) (b + d) := ⟨_, rfl⟩
      rw [← hT] at HMy ⊢
      clear hT h1 h2
      go_enter Tryd.func10, Tryd.ntmps10
      go_wp2_with fail
      refine (HR1.out _).mono ?_; rintro e w1 ⟨rfl, hh⟩
      have HW1 := hid (HA.out.1.trans (hh.out.mono HA.out.1.size))
      have HX1 := hid ((hh.out.block w.heap.size (by simp; omega)).trans HA.out.2.1)
      have HY1 := hid ((hh.out.block (w.heap.size + 1) (by simp)).trans HA.out.2.2.1)
      have HZ1 := hid ((hh.out.block (w.heap.size + 2) (by simp)).trans HA.out.2.2.2.1)
      clear hh
      obtain ⟨⟨x0, x1⟩, -⟩ := pt_facts HX1.out
      obtain ⟨⟨y0, y1⟩, -⟩ := pt_facts HY1.out
      have hz := (Array.getElem?_eq_some_iff.1 HZ1.out).1
      go_wp2_with fail
      refine (HR2.out _).mono ?_; rintro e w2 ⟨rfl, hh⟩
      have HW2 := hid (HW1.out.trans (hh.out.mono HW1.out.size))
      have HX2 := hid ((hh.out.block w.heap.size (by omega)).trans HX1.out)
      have HY2 := hid ((hh.out.block (w.heap.size + 1) (by omega)).trans HY1.out)
      have HZ2 := hid ((hh.out.block (w.heap.size + 2) hz).trans HZ1.out)
      have hz2 : w.heap.size + 2 < w2.heap.size := Nat.lt_of_lt_of_le hz hh.out.size
      clear hh x0 x1 y0 y1
      obtain ⟨⟨x0, x1⟩, -⟩ := pt_facts HX2.out
      obtain ⟨⟨y0, y1⟩, -⟩ := pt_facts HY2.out
      go_wp2_with fail
      refine (HMy.out _).mono ?_; rintro e w3 ⟨rfl, hh⟩
      have HW3 := hid (HW2.out.trans (hh.out.mono HW2.out.size))
      have HZ3 := hid ((hh.out.block (w.heap.size + 2) hz2).trans HZ2.out)
      clear hh
      obtain ⟨⟨z0, z1⟩, g0, g1⟩ := pt_facts HZ3.out
      go_wp2_with fail
      refine bodyPost_ret (v := tv T) ?_ rfl ?_
      · exact ret_tel rfl rfl rfl (heap_setCell_same _ (w.heap.size + 2) 1 _ _ _ (heap_setCell_same _ (w.heap.size + 2) 0 _ _ _ HZ3.out))
      · exact ⟨rfl, (HW3.out.setCell (p := ⟨w.heap.size + 2, 0, none⟩) (by simp) _).setCell (p := ⟨w.heap.size + 2, 1, none⟩) (by simp) _⟩
    · have h2' : rt c d = false := by simpa using h2
      rw [h2'] at HR2
      rw [show addP a b c d = ⟨0, 0, 91⟩ by unfold addP; rw [h1, h2']; rfl]
      clear h1 h2 h2'
      go_enter Tryd.func10, Tryd.ntmps10
      go_wp2_with fail
      refine (HR1.out _).mono ?_; rintro e w1 ⟨rfl, hh⟩
      have HW1 := hid (HA.out.1.trans (hh.out.mono HA.out.1.size))
      have HY1 := hid ((hh.out.block (w.heap.size + 1) (by simp)).trans HA.out.2.2.1)
      have HZ1 := hid ((hh.out.block (w.heap.size + 2) (by simp)).trans HA.out.2.2.2.1)
      clear hh
      obtain ⟨⟨y0, y1⟩, -⟩ := pt_facts HY1.out
      have hz := (Array.getElem?_eq_some_iff.1 HZ1.out).1
      go_wp2_with fail
      refine (HR2.out _).mono ?_; rintro e w2 ⟨rfl, hh⟩
      have HW2 := hid (HW1.out.trans (hh.out.mono HW1.out.size))
      have HZ2 := hid ((hh.out.block (w.heap.size + 2) hz).trans HZ1.out)
      clear hh
      obtain ⟨⟨z0, z1⟩, g0, g1⟩ := pt_facts HZ2.out
      go_wp2_with fail
      refine bodyPost_ret (v := tv ⟨0, 0, 91⟩) ?_ rfl ?_
      · exact ret_tel rfl rfl rfl (heap_setCell_same _ (w.heap.size + 2) 1 _ _ _ (heap_setCell_same _ (w.heap.size + 2) 0 _ _ _ HZ2.out))
      · exact ⟨rfl, (HW2.out.setCell (p := ⟨w.heap.size + 2, 0, none⟩) (by simp) _).setCell (p := ⟨w.heap.size + 2, 1, none⟩) (by simp) _⟩
  · have h1' : rt a b = false := by simpa using h1
    rw [h1'] at HR1
    rw [show addP a b c d = ⟨0, 0, 91⟩ by unfold addP; rw [h1']; rfl]
    clear h1 h1'
    go_enter Tryd.func10, Tryd.ntmps10
    go_wp2_with fail
    refine (HR1.out _).mono ?_; rintro e w1 ⟨rfl, hh⟩
    have HW1 := hid (HA.out.1.trans (hh.out.mono HA.out.1.size))
    have HZ1 := hid ((hh.out.block (w.heap.size + 2) (by simp)).trans HA.out.2.2.2.1)
    clear hh
    obtain ⟨⟨z0, z1⟩, g0, g1⟩ := pt_facts HZ1.out
    go_wp2_with fail
    refine bodyPost_ret (v := tv ⟨0, 0, 91⟩) ?_ rfl ?_
    · exact ret_tel rfl rfl rfl (heap_setCell_same _ (w.heap.size + 2) 1 _ _ _ (heap_setCell_same _ (w.heap.size + 2) 0 _ _ _ HZ1.out))
    · exact ⟨rfl, (HW1.out.setCell (p := ⟨w.heap.size + 2, 0, none⟩) (by simp) _).setCell (p := ⟨w.heap.size + 2, 1, none⟩) (by simp) _⟩
set_option maxHeartbeats 2000000 in
set_option maxRecDepth 100000 in
/-- ref times -/
theorem rtimes_any (a b c d : Int) (w : World) : Calls Tryd.prog 13 #[pv a b, pv c d] w fun e w' => e = .returned (tv (mulP a b c d)) ∧ Hid (Below w.heap.size w w') := by
  have HR1 := hid (fun W => rright_any a b W)
  have HR2 := hid (fun W => rright_any c d W)
  have HA := hid (al3 w (pc a b) (pc c d) (pc 0 0))
  by_cases h1 : rt a b = true
  · rw [h1] at HR1
    by_cases h2 : rt c d = true
    · rw [h2] at HR2
      rw [show mulP a b c d = may (a * c - b * d) (a * d + b * c) by unfold mulP; rw [h1, h2]; rfl]
      obtain ⟨a0, a1, b0, b1⟩ := rt_iff.1 h1
      obtain ⟨c0, c1, d0, d1⟩ := rt_iff.1 h2
      have m0 := part_mul a0 a1 c0 c1
      have m1 := part_mul b0 b1 d0 d1
      have m2 := part_mul a0 a1 d0 d1
      have m3 := part_mul b0 b1 c0 c1
      have HMy := hid (fun W => rmay_any (a * c - b * d) (a * d + b * c) W)
      obtain ⟨T, hT⟩ : ∃ T, T = may (a * c - b * d) (a * d + b * c) := ⟨_, rfl⟩
      rw [← hT] at HMy ⊢
      clear hT h1 h2
      go_enter Tryd.func13, Tryd.ntmps13
      go_wp2_with fail
      refine (HR1.out _).mono ?_; rintro e w1 ⟨rfl, hh⟩
      have HW1 := hid (HA.out.1.trans (hh.out.mono HA.out.1.size))
      have HX1 := hid ((hh.out.block w.heap.size (by simp; omega)).trans HA.out.2.1)
      have HY1 := hid ((hh.out.block (w.heap.size + 1) (by simp)).trans HA.out.2.2.1)
      have HZ1 := hid ((hh.out.block (w.heap.size + 2) (by simp)).trans HA.out.2.2.2.1)
      clear hh
      obtain ⟨⟨x0, x1⟩, -⟩ := pt_facts HX1.out
      obtain ⟨⟨y0, y1⟩, -⟩ := pt_facts HY1.out
      have hz := (Array.getElem?_eq_some_iff.1 HZ1.out).1
      go_wp2_with fail
      refine (HR2.out _).mono ?_; rintro e w2 ⟨rfl, hh⟩
      have HW2 := hid (HW1.out.trans (hh.out.mono HW1.out.size))
      have HX2 := hid ((hh.out.block w.heap.size (by omega)).trans HX1.out)
      have HY2 := hid ((hh.out.block (w.heap.size + 1) (by omega)).trans HY1.out)
      have HZ2 := hid ((hh.out.block (w.heap.size + 2) hz).trans HZ1.out)
      have hz2 : w.heap.size + 2 < w2.heap.size := Nat.lt_of_lt_of_le hz hh.out.size
      clear hh x0 x1 y0 y1
      obtain ⟨⟨x0, x1⟩, -⟩ := pt_facts HX2.out
      obtain ⟨⟨y0, y1⟩, -⟩ := pt_facts HY2.out
      go_wp2_with fail
      refine (HMy.out _).mono ?_; rintro e w3 ⟨rfl, hh⟩
      have HW3 := hid (HW2.out.trans (hh.out.mono HW2.out.size))
      have HZ3 := hid ((hh.out.block (w.heap.size + 2) hz2).trans HZ2.out)
      clear hh
      obtain ⟨⟨z0, z1⟩, g0, g1⟩ := pt_facts HZ3.out
      go_wp2_with fail
      refine bodyPost_ret (v := tv T) ?_ rfl ?_
      · exact ret_tel rfl rfl rfl (heap_setCell_same _ (w.heap.size + 2) 1 _ _ _ (heap_setCell_same _ (w.heap.size + 2) 0 _ _ _ HZ3.out))
      · exact ⟨rfl, (HW3.out.setCell (p := ⟨w.heap.size + 2, 0, none⟩) (by simp) _).setCell (p := ⟨w.heap.size + 2, 1, none⟩) (by simp) _⟩
    · have h2' : rt c d = false := by simpa using h2
      rw [h2'] at HR2
      rw [show mulP a b c d = ⟨0, 0, 91⟩ by unfold mulP; rw [h1, h2']; rfl]
      clear h1 h2 h2'
      go_enter Tryd.func13, Tryd.ntmps13
      go_wp2_with fail
      refine (HR1.out _).mono ?_; rintro e w1 ⟨rfl, hh⟩
      have HW1 := hid (HA.out.1.trans (hh.out.mono HA.out.1.size))
      have HY1 := hid ((hh.out.block (w.heap.size + 1) (by simp)).trans HA.out.2.2.1)
      have HZ1 := hid ((hh.out.block (w.heap.size + 2) (by simp)).trans HA.out.2.2.2.1)
      clear hh
      obtain ⟨⟨y0, y1⟩, -⟩ := pt_facts HY1.out
      have hz := (Array.getElem?_eq_some_iff.1 HZ1.out).1
      go_wp2_with fail
      refine (HR2.out _).mono ?_; rintro e w2 ⟨rfl, hh⟩
      have HW2 := hid (HW1.out.trans (hh.out.mono HW1.out.size))
      have HZ2 := hid ((hh.out.block (w.heap.size + 2) hz).trans HZ1.out)
      clear hh
      obtain ⟨⟨z0, z1⟩, g0, g1⟩ := pt_facts HZ2.out
      go_wp2_with fail
      refine bodyPost_ret (v := tv ⟨0, 0, 91⟩) ?_ rfl ?_
      · exact ret_tel rfl rfl rfl (heap_setCell_same _ (w.heap.size + 2) 1 _ _ _ (heap_setCell_same _ (w.heap.size + 2) 0 _ _ _ HZ2.out))
      · exact ⟨rfl, (HW2.out.setCell (p := ⟨w.heap.size + 2, 0, none⟩) (by simp) _).setCell (p := ⟨w.heap.size + 2, 1, none⟩) (by simp) _⟩
  · have h1' : rt a b = false := by simpa using h1
    rw [h1'] at HR1
    rw [show mulP a b c d = ⟨0, 0, 91⟩ by unfold mulP; rw [h1']; rfl]
    clear h1 h1'
    go_enter Tryd.func13, Tryd.ntmps13
    go_wp2_with fail
    refine (HR1.out _).mono ?_; rintro e w1 ⟨rfl, hh⟩
    have HW1 := hid (HA.out.1.trans (hh.out.mono HA.out.1.size))
    have HZ1 := hid ((hh.out.block (w.heap.size + 2) (by simp)).trans HA.out.2.2.2.1)
    clear hh
    obtain ⟨⟨z0, z1⟩, g0, g1⟩ := pt_facts HZ1.out
    go_wp2_with fail
    refine bodyPost_ret (v := tv ⟨0, 0, 91⟩) ?_ rfl ?_
    · exact ret_tel rfl rfl rfl (heap_setCell_same _ (w.heap.size + 2) 1 _ _ _ (heap_setCell_same _ (w.heap.size + 2) 0 _ _ _ HZ1.out))
    · exact ⟨rfl, (HW1.out.setCell (p := ⟨w.heap.size + 2, 0, none⟩) (by simp) _).setCell (p := ⟨w.heap.size + 2, 1, none⟩) (by simp) _⟩

end Go.Proofs.YtenncfohifekhaaDoor
