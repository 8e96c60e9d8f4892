/- The program's Add and Times. -/
import Derived.Test.YtenncfohifekhaaDoorPos
namespace Go.Proofs.YtenncfohifekhaaDoor
open Go.RowKit

set_option maxHeartbeats 4000000 in
set_option maxRecDepth 100000 in
theorem padd_any (a b c d : Int) (w : World) : Calls Tryd.prog 9 #[pv a b, pv c d] w fun e w' => e = .returned (tv (addP a b c d)) ∧ Hid (Below w.heap.size w w') := by
  have HR1 := hid (fun W => pright_any a b W)
  have HR2 := hid (fun W => pright_any c d W)
  have HA := hid (al3 w (pc a b) (pc c d) (pc 0 0))
  by_cases h1 : rt a b = true
  · rw [h1] at HR1
    by_cases h2 : rt c d = true
    · rw [h2] at HR2
      rw [show addP a b c d = may (a + c) (b + d) by unfold addP; rw [h1, h2]; rfl]
      obtain ⟨a0, a1, b0, b1⟩ := rt_iff.1 h1
      obtain ⟨c0, c1, d0, d1⟩ := rt_iff.1 h2
      have HC1 := hid (fun W => within_any a b W)
      have HC2 := hid (fun W => within_any c d W)
      obtain ⟨re, im, rr, j1, j2⟩ := cadd_run (Is.of_int a (by omega)) (Is.of_int b (by omega)) (Is.of_int c (by omega)) (Is.of_int d (by omega)) (by omega) (by omega)
      have HJ := hid (And.intro j1 j2)
      clear j1 j2
      have HMy : Hid (∀ {f g : Nat} (W : World), Is f (a + c) → Is g (b + d) → Calls Tryd.prog 24 #[.complex .f64 f g] W fun e w' => e = .returned (tv (may (a + c) (b + d))) ∧ Hid (Below W.heap.size W w')) := fun W i1 i2 => told_any i1 i2 W (by omega) (by omega)
      obtain ⟨T, hT⟩ : ∃ T, T = may (a + c) (b + d) := ⟨_, rfl⟩
      rw [← hT] at HMy ⊢
      clear hT h1 h2 a0 a1 b0 b1 c0 c1 d0 d1
      generalize floatOfInt .f64 a = fa at *
      generalize floatOfInt .f64 b = fb at *
      generalize floatOfInt .f64 c = fc at *
      generalize floatOfInt .f64 d = fd at *
      go_enter Tryd.func9, Tryd.ntmps9
      go_wp2_with fail
      refine (HR1.out _).mono ?_; rintro e w1 ⟨rfl, hh⟩
      have HW1 := hid (HA.out.1.trans (hh.out.mono HA.out.1.size))
      have HX1 := hid ((hh.out.block w.heap.size (by simp; omega)).trans HA.out.2.1)
      have HY1 := hid ((hh.out.block (w.heap.size + 1) (by simp)).trans HA.out.2.2.1)
      have HZ1 := hid ((hh.out.block (w.heap.size + 2) (by simp)).trans HA.out.2.2.2.1)
      clear hh
      obtain ⟨⟨x0, x1⟩, -⟩ := pt_facts HX1.out
      obtain ⟨⟨y0, y1⟩, -⟩ := pt_facts HY1.out
      have hz := (Array.getElem?_eq_some_iff.1 HZ1.out).1
      go_wp2_with fail
      refine (HR2.out _).mono ?_; rintro e w2 ⟨rfl, hh⟩
      have HW2 := hid ((HW1.out.trans (hh.out.mono HW1.out.size)).drew)
      have HX2 := hid ((hh.out.block w.heap.size (by omega)).trans HX1.out)
      have HY2 := hid ((hh.out.block (w.heap.size + 1) (by omega)).trans HY1.out)
      have HZ2 := hid ((hh.out.block (w.heap.size + 2) hz).trans HZ1.out)
      have hz2 : w.heap.size + 2 < w2.heap.size := Nat.lt_of_lt_of_le hz hh.out.size
      clear hh x0 x1 y0 y1
      obtain ⟨⟨x0, x1⟩, -⟩ := pt_facts HX2.out
      obtain ⟨⟨y0, y1⟩, -⟩ := pt_facts HY2.out
      go_wp2_with fail
      go_region_law (first
        | (have _q := HX3.out; clear _q; go_simp; go_at_call 25; refine (HC2.out _).mono ?_; rintro e w4 ⟨rfl, hh⟩; have HZ4 := hid ((hh.out.block (w.heap.size + 2) (Array.getElem?_eq_some_iff.1 HZ3.out).1).trans HZ3.out); have HW4 := hid (HW3.out.trans (hh.out.mono HW3.out.size)); clear hh)
        | (go_simp; go_at_call 25; refine (HC1.out _).mono ?_; rintro e w3 ⟨rfl, hh⟩; have HX3 := hid ((hh.out.block w.heap.size (by simp; omega)).trans HX2.out); have HY3 := hid ((hh.out.block (w.heap.size + 1) (by simp; omega)).trans HY2.out); have HZ3 := hid ((hh.out.block (w.heap.size + 2) (by simp; omega)).trans HZ2.out); have HW3 := hid (HW2.out.trans (hh.out.mono HW2.out.size)); clear hh; obtain ⟨⟨u0, u1⟩, -⟩ := pt_facts HX3.out; obtain ⟨⟨v0, v1⟩, -⟩ := pt_facts HY3.out)
        | (go_simp; go_at_call 24; refine (HMy.out _ HJ.out.1 HJ.out.2).mono ?_; rintro e w5 ⟨rfl, hh⟩; have HZ5 := hid ((hh.out.block (w.heap.size + 2) (Array.getElem?_eq_some_iff.1 HZ4.out).1).trans HZ4.out); have HW5 := hid (HW4.out.trans (hh.out.mono HW4.out.size)); clear hh; obtain ⟨⟨z0, z1⟩, g0, g1⟩ := pt_facts HZ5.out))
      all_goals go_wp2_with fail
      all_goals refine bodyPost_ret (v := tv T) ?_ rfl ?_
      all_goals first
        | exact ret_tel rfl rfl rfl (heap_setCell_same _ (w.heap.size + 2) 1 _ _ _ (heap_setCell_same _ (w.heap.size + 2) 0 _ _ _ HZ5.out))
        | exact ⟨rfl, (HW5.out.setCell (p := ⟨w.heap.size + 2, 0, none⟩) (by simp) _).setCell (p := ⟨w.heap.size + 2, 1, none⟩) (by simp) _⟩
    · have h2' : rt c d = false := by simpa using h2
      rw [h2'] at HR2
      rw [show addP a b c d = ⟨0, 0, 91⟩ by unfold addP; rw [h1, h2']; rfl]
      clear h1 h2 h2'
      go_enter Tryd.func9, Tryd.ntmps9
      go_wp2_with fail
      refine (HR1.out _).mono ?_; rintro e w1 ⟨rfl, hh⟩
      have HW1 := hid (HA.out.1.trans (hh.out.mono HA.out.1.size))
      have HY1 := hid ((hh.out.block (w.heap.size + 1) (by simp)).trans HA.out.2.2.1)
      have HZ1 := hid ((hh.out.block (w.heap.size + 2) (by simp)).trans HA.out.2.2.2.1)
      clear hh
      obtain ⟨⟨y0, y1⟩, -⟩ := pt_facts HY1.out
      have hz := (Array.getElem?_eq_some_iff.1 HZ1.out).1
      go_wp2_with fail
      refine (HR2.out _).mono ?_; rintro e w2 ⟨rfl, hh⟩
      have HW2 := hid (HW1.out.trans (hh.out.mono HW1.out.size))
      have HZ2 := hid ((hh.out.block (w.heap.size + 2) hz).trans HZ1.out)
      clear hh
      obtain ⟨⟨z0, z1⟩, g0, g1⟩ := pt_facts HZ2.out
      go_wp2_with fail
      refine bodyPost_ret (v := tv ⟨0, 0, 91⟩) ?_ rfl ?_
      · exact ret_tel rfl rfl rfl (heap_setCell_same _ (w.heap.size + 2) 1 _ _ _ (heap_setCell_same _ (w.heap.size + 2) 0 _ _ _ HZ2.out))
      · exact ⟨rfl, (HW2.out.setCell (p := ⟨w.heap.size + 2, 0, none⟩) (by simp) _).setCell (p := ⟨w.heap.size + 2, 1, none⟩) (by simp) _⟩
  · have h1' : rt a b = false := by simpa using h1
    rw [h1'] at HR1
    rw [show addP a b c d = ⟨0, 0, 91⟩ by unfold addP; rw [h1']; rfl]
    clear h1 h1'
    go_enter Tryd.func9, Tryd.ntmps9
    go_wp2_with fail
    refine (HR1.out _).mono ?_; rintro e w1 ⟨rfl, hh⟩
    have HW1 := hid (HA.out.1.trans (hh.out.mono HA.out.1.size))
    have HZ1 := hid ((hh.out.block (w.heap.size + 2) (by simp)).trans HA.out.2.2.2.1)
    clear hh
    obtain ⟨⟨z0, z1⟩, g0, g1⟩ := pt_facts HZ1.out
    go_wp2_with fail
    refine bodyPost_ret (v := tv ⟨0, 0, 91⟩) ?_ rfl ?_
    · exact ret_tel rfl rfl rfl (heap_setCell_same _ (w.heap.size + 2) 1 _ _ _ (heap_setCell_same _ (w.heap.size + 2) 0 _ _ _ HZ1.out))
    · exact ⟨rfl, (HW1.out.setCell (p := ⟨w.heap.size + 2, 0, none⟩) (by simp) _).setCell (p := ⟨w.heap.size + 2, 1, none⟩) (by simp) _⟩

set_option maxHeartbeats 4000000 in
set_option maxRecDepth 100000 in
theorem ptimes_any (a b c d : Int) (w : World) : Calls Tryd.prog 12 #[pv a b, pv c d] w fun e w' => e = .returned (tv (mulP a b c d)) ∧ Hid (Below w.heap.size w w') := by
  have HR1 := hid (fun W => pright_any a b W)
  have HR2 := hid (fun W => pright_any c d W)
  have HA := hid (al3 w (pc a b) (pc c d) (pc 0 0))
  by_cases h1 : rt a b = true
  · rw [h1] at HR1
    by_cases h2 : rt c d = true
    · rw [h2] at HR2
      rw [show mulP a b c d = may (a * c - b * d) (a * d + b * c) by unfold mulP; rw [h1, h2]; rfl]
      obtain ⟨a0, a1, b0, b1⟩ := rt_iff.1 h1
      obtain ⟨c0, c1, d0, d1⟩ := rt_iff.1 h2
      have HC1 := hid (fun W => within_any a b W)
      have HC2 := hid (fun W => within_any c d W)
      obtain ⟨re, im, rr, j1, j2⟩ := cmul_run (Is.of_int a (by omega)) (Is.of_int b (by omega)) (Is.of_int c (by omega)) (Is.of_int d (by omega)) (by omega) (by omega) (by omega) (by omega) (by omega) (by omega) (by omega) (by omega)
      have HJ := hid (And.intro j1 j2)
      clear j1 j2
      have HMy : Hid (∀ {f g : Nat} (W : World), Is f (a * c - b * d) → Is g (a * d + b * c) → Calls Tryd.prog 24 #[.complex .f64 f g] W fun e w' => e = .returned (tv (may (a * c - b * d) (a * d + b * c))) ∧ Hid (Below W.heap.size W w')) := by
        have m1 := part_mul a0 a1 c0 c1
        have m2 := part_mul b0 b1 d0 d1
        have m3 := part_mul a0 a1 d0 d1
        have m4 := part_mul b0 b1 c0 c1
        exact fun {f g} W i1 i2 => told_any i1 i2 W (by omega) (by omega)
      obtain ⟨T, hT⟩ : ∃ T, T = may (a * c - b * d) (a * d + b * c) := ⟨_, rfl⟩
      rw [← hT] at HMy ⊢
      clear hT h1 h2 a0 a1 b0 b1 c0 c1 d0 d1
      generalize floatOfInt .f64 a = fa at *
      generalize floatOfInt .f64 b = fb at *
      generalize floatOfInt .f64 c = fc at *
      generalize floatOfInt .f64 d = fd at *
      go_enter Tryd.func12, Tryd.ntmps12
      go_wp2_with fail
      refine (HR1.out _).mono ?_; rintro e w1 ⟨rfl, hh⟩
      have HW1 := hid (HA.out.1.trans (hh.out.mono HA.out.1.size))
      have HX1 := hid ((hh.out.block w.heap.size (by simp; omega)).trans HA.out.2.1)
      have HY1 := hid ((hh.out.block (w.heap.size + 1) (by simp)).trans HA.out.2.2.1)
      have HZ1 := hid ((hh.out.block (w.heap.size + 2) (by simp)).trans HA.out.2.2.2.1)
      clear hh
      obtain ⟨⟨x0, x1⟩, -⟩ := pt_facts HX1.out
      obtain ⟨⟨y0, y1⟩, -⟩ := pt_facts HY1.out
      have hz := (Array.getElem?_eq_some_iff.1 HZ1.out).1
      go_wp2_with fail
      refine (HR2.out _).mono ?_; rintro e w2 ⟨rfl, hh⟩
      have HW2 := hid ((HW1.out.trans (hh.out.mono HW1.out.size)).drew)
      have HX2 := hid ((hh.out.block w.heap.size (by omega)).trans HX1.out)
      have HY2 := hid ((hh.out.block (w.heap.size + 1) (by omega)).trans HY1.out)
      have HZ2 := hid ((hh.out.block (w.heap.size + 2) hz).trans HZ1.out)
      have hz2 : w.heap.size + 2 < w2.heap.size := Nat.lt_of_lt_of_le hz hh.out.size
      clear hh x0 x1 y0 y1
      obtain ⟨⟨x0, x1⟩, -⟩ := pt_facts HX2.out
      obtain ⟨⟨y0, y1⟩, -⟩ := pt_facts HY2.out
      go_wp2_with fail
      go_region_law (first
        | (have _q := HX3.out; clear _q; go_simp; go_at_call 25; refine (HC2.out _).mono ?_; rintro e w4 ⟨rfl, hh⟩; have HZ4 := hid ((hh.out.block (w.heap.size + 2) (Array.getElem?_eq_some_iff.1 HZ3.out).1).trans HZ3.out); have HW4 := hid (HW3.out.trans (hh.out.mono HW3.out.size)); clear hh)
        | (go_simp; go_at_call 25; refine (HC1.out _).mono ?_; rintro e w3 ⟨rfl, hh⟩; have HX3 := hid ((hh.out.block w.heap.size (by simp; omega)).trans HX2.out); have HY3 := hid ((hh.out.block (w.heap.size + 1) (by simp; omega)).trans HY2.out); have HZ3 := hid ((hh.out.block (w.heap.size + 2) (by simp; omega)).trans HZ2.out); have HW3 := hid (HW2.out.trans (hh.out.mono HW2.out.size)); clear hh; obtain ⟨⟨u0, u1⟩, -⟩ := pt_facts HX3.out; obtain ⟨⟨v0, v1⟩, -⟩ := pt_facts HY3.out)
        | (go_simp; go_at_call 24; refine (HMy.out _ HJ.out.1 HJ.out.2).mono ?_; rintro e w5 ⟨rfl, hh⟩; have HZ5 := hid ((hh.out.block (w.heap.size + 2) (Array.getElem?_eq_some_iff.1 HZ4.out).1).trans HZ4.out); have HW5 := hid (HW4.out.trans (hh.out.mono HW4.out.size)); clear hh; obtain ⟨⟨z0, z1⟩, g0, g1⟩ := pt_facts HZ5.out))
      all_goals go_wp2_with fail
      all_goals refine bodyPost_ret (v := tv T) ?_ rfl ?_
      all_goals first
        | exact ret_tel rfl rfl rfl (heap_setCell_same _ (w.heap.size + 2) 1 _ _ _ (heap_setCell_same _ (w.heap.size + 2) 0 _ _ _ HZ5.out))
        | exact ⟨rfl, (HW5.out.setCell (p := ⟨w.heap.size + 2, 0, none⟩) (by simp) _).setCell (p := ⟨w.heap.size + 2, 1, none⟩) (by simp) _⟩
    · have h2' : rt c d = false := by simpa using h2
      rw [h2'] at HR2
      rw [show mulP a b c d = ⟨0, 0, 91⟩ by unfold mulP; rw [h1, h2']; rfl]
      clear h1 h2 h2'
      go_enter Tryd.func12, Tryd.ntmps12
      go_wp2_with fail
      refine (HR1.out _).mono ?_; rintro e w1 ⟨rfl, hh⟩
      have HW1 := hid (HA.out.1.trans (hh.out.mono HA.out.1.size))
      have HY1 := hid ((hh.out.block (w.heap.size + 1) (by simp)).trans HA.out.2.2.1)
      have HZ1 := hid ((hh.out.block (w.heap.size + 2) (by simp)).trans HA.out.2.2.2.1)
      clear hh
      obtain ⟨⟨y0, y1⟩, -⟩ := pt_facts HY1.out
      have hz := (Array.getElem?_eq_some_iff.1 HZ1.out).1
      go_wp2_with fail
      refine (HR2.out _).mono ?_; rintro e w2 ⟨rfl, hh⟩
      have HW2 := hid (HW1.out.trans (hh.out.mono HW1.out.size))
      have HZ2 := hid ((hh.out.block (w.heap.size + 2) hz).trans HZ1.out)
      clear hh
      obtain ⟨⟨z0, z1⟩, g0, g1⟩ := pt_facts HZ2.out
      go_wp2_with fail
      refine bodyPost_ret (v := tv ⟨0, 0, 91⟩) ?_ rfl ?_
      · exact ret_tel rfl rfl rfl (heap_setCell_same _ (w.heap.size + 2) 1 _ _ _ (heap_setCell_same _ (w.heap.size + 2) 0 _ _ _ HZ2.out))
      · exact ⟨rfl, (HW2.out.setCell (p := ⟨w.heap.size + 2, 0, none⟩) (by simp) _).setCell (p := ⟨w.heap.size + 2, 1, none⟩) (by simp) _⟩
  · have h1' : rt a b = false := by simpa using h1
    rw [h1'] at HR1
    rw [show mulP a b c d = ⟨0, 0, 91⟩ by unfold mulP; rw [h1']; rfl]
    clear h1 h1'
    go_enter Tryd.func12, Tryd.ntmps12
    go_wp2_with fail
    refine (HR1.out _).mono ?_; rintro e w1 ⟨rfl, hh⟩
    have HW1 := hid (HA.out.1.trans (hh.out.mono HA.out.1.size))
    have HZ1 := hid ((hh.out.block (w.heap.size + 2) (by simp)).trans HA.out.2.2.2.1)
    clear hh
    obtain ⟨⟨z0, z1⟩, g0, g1⟩ := pt_facts HZ1.out
    go_wp2_with fail
    refine bodyPost_ret (v := tv ⟨0, 0, 91⟩) ?_ rfl ?_
    · exact ret_tel rfl rfl rfl (heap_setCell_same _ (w.heap.size + 2) 1 _ _ _ (heap_setCell_same _ (w.heap.size + 2) 0 _ _ _ HZ1.out))
    · exact ⟨rfl, (HW1.out.setCell (p := ⟨w.heap.size + 2, 0, none⟩) (by simp) _).setCell (p := ⟨w.heap.size + 2, 1, none⟩) (by simp) _⟩

end Go.Proofs.YtenncfohifekhaaDoor
