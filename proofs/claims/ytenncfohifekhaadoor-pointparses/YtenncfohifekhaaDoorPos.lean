/- The program's points: Right, and points as complex numbers. -/
import Derived.Test.YtenncfohifekhaaDoorCplx
import Derived.Test.YtenncfohifekhaaDoorNeg
import Derived.Test.YtenncfohifekhaaDoorAnd3
import Derived.Test.YtenncfohifekhaaDoorMeth
namespace Go.Proofs.YtenncfohifekhaaDoor
open Go.RowKit

theorem part_any (n : Int) (w : World) : Calls Tryd.prog 28 #[.int .i64 n] w fun e w' => e = .returned (.bool (decide (-1048576 ≤ n ∧ n ≤ 1048576))) ∧ w' = w := by
  by_cases h1 : -1048576 ≤ n
  · by_cases h2 : n ≤ 1048576
    · rw [decide_eq_true ⟨h1, h2⟩]
      go_enter Tryd.func28, Tryd.ntmps28
      go_wp2_with fail
      go_ret
      exact ⟨rfl, rfl⟩
    · rw [decide_eq_false (fun h => h2 h.2)]
      go_enter Tryd.func28, Tryd.ntmps28
      go_wp2_with fail
      go_ret
      exact ⟨rfl, rfl⟩
  · rw [decide_eq_false (fun h => h1 h.1)]
    go_enter Tryd.func28, Tryd.ntmps28
    go_wp2_with fail
    go_ret
    exact ⟨rfl, rfl⟩
theorem pright_any (x y : Int) (w : World) : Calls Tryd.prog 16 #[pv x y] w fun e w' => e = .returned (.bool (rt x y)) ∧ Hid (Below w.heap.size w w') := by
  have e : rt x y = (decide (-1048576 ≤ x ∧ x ≤ 1048576) && decide (-1048576 ≤ y ∧ y ≤ 1048576)) := by
    rw [← Bool.decide_and]; unfold rt; exact decide_eq_decide.2 (by omega)
  rw [e]
  have H1 := hid (part_any x)
  have H2 := hid (part_any y)
  generalize decide (-1048576 ≤ x ∧ x ≤ 1048576) = X at *
  generalize decide (-1048576 ≤ y ∧ y ≤ 1048576) = Y at *
  have HX := hid (pt_new w x y)
  have HB := hid (below_alloc w (pc x y))
  obtain ⟨⟨c0, c1⟩, -⟩ := pt_facts HX.out
  cases X with
  | false =>
    go_enter Tryd.func16, Tryd.ntmps16
    go_wp2_with fail
    refine (H1.out _).mono ?_; rintro e w' ⟨rfl, rfl⟩
    go_wp2_with fail
    go_ret
    exact ⟨rfl, HB.out⟩
  | true =>
    go_enter Tryd.func16, Tryd.ntmps16
    go_wp2_with fail
    refine (H1.out _).mono ?_; rintro e w' ⟨rfl, rfl⟩
    go_wp2_with fail
    refine (H2.out _).mono ?_; rintro e w' ⟨rfl, rfl⟩
    go_wp2_with fail
    go_ret
    exact ⟨rfl, HB.out⟩
/-- a point as a complex number -/
theorem within_any (x y : Int) (w : World) :
    Calls Tryd.prog 25 #[pv x y] w fun e w' => e = .returned (.complex .f64 (floatOfInt .f64 x) (floatOfInt .f64 y)) ∧ Hid (Below w.heap.size w w') := by
  have HX := hid (pt_new w x y)
  have HB := hid (below_alloc w (pc x y))
  have r1 := of_int_run x
  have r2 := of_int_run y
  generalize floatOfInt .f64 x = a at *
  generalize floatOfInt .f64 y = b at *
  obtain ⟨⟨c0, c1⟩, -⟩ := pt_facts HX.out
  go_enter Tryd.func25, Tryd.ntmps25
  go_wp2_with fail
  go_ret
  exact ⟨rfl, HB.out⟩
/-- a complex number as a point -/
theorem told_any {a b : Nat} {x y : Int} (ha : Is a x) (hb : Is b y) (w : World) (hx : x.natAbs < 9007199254740992) (hy : y.natAbs < 9007199254740992) :
    Calls Tryd.prog 24 #[.complex .f64 a b] w fun e w' => e = .returned (tv (may x y)) ∧ Hid (Below w.heap.size w w') := by
  have r1 := to_int_run ha (by omega) (by omega)
  have r2 := to_int_run hb (by omega) (by omega)
  have HR := hid (fun W => pright_any x y W)
  have HA := hid (al2 w (pc 0 0) (pc x y))
  clear ha hb
  cases h : rt x y with
  | true =>
    rw [show may x y = ⟨x, y, 0⟩ from if_pos h]
    rw [h] at HR
    clear h
    go_enter Tryd.func24, Tryd.ntmps24
    go_wp2_with fail
    refine (HR.out _).mono ?_; rintro e w1 ⟨rfl, hh⟩
    obtain ⟨⟨c0, c1⟩, -⟩ := pt_facts ((hh.out.block (w.heap.size + 1) (by simp)).trans HA.out.2.2.1)
    have hb := (hh.out.block w.heap.size (by simp; omega)).trans HA.out.2.1
    obtain ⟨⟨d0, d1⟩, f0, f1⟩ := pt_facts hb
    have HB := hid hb
    have HW := hid (HA.out.1.trans (hh.out.mono HA.out.1.size))
    clear hh hb
    go_wp2_with fail
    refine bodyPost_ret (v := tv ⟨x, y, 0⟩) ?_ rfl ?_
    · exact ret_tel rfl rfl rfl (heap_setCell_same _ w.heap.size 1 _ _ _ (heap_setCell_same _ w.heap.size 0 _ _ _ HB.out))
    · exact ⟨rfl, (HW.out.setCell (p := ⟨w.heap.size, 0, none⟩) (by simp) _).setCell (p := ⟨w.heap.size, 1, none⟩) (by simp) _⟩
  | false =>
    rw [show may x y = ⟨0, 0, 91⟩ from if_neg (by simp [h])]
    rw [h] at HR
    clear h
    go_enter Tryd.func24, Tryd.ntmps24
    go_wp2_with fail
    refine (HR.out _).mono ?_; rintro e w1 ⟨rfl, hh⟩
    have hb := (hh.out.block w.heap.size (by simp; omega)).trans HA.out.2.1
    obtain ⟨⟨d0, d1⟩, f0, f1⟩ := pt_facts hb
    have HB := hid hb
    have HW := hid (HA.out.1.trans (hh.out.mono HA.out.1.size))
    clear hh hb
    go_wp2_with fail
    refine bodyPost_ret (v := tv ⟨0, 0, 91⟩) ?_ rfl ?_
    · exact ret_tel rfl rfl rfl (heap_setCell_same _ w.heap.size 1 _ _ _ (heap_setCell_same _ w.heap.size 0 _ _ _ HB.out))
    · exact ⟨rfl, (HW.out.setCell (p := ⟨w.heap.size, 0, none⟩) (by simp) _).setCell (p := ⟨w.heap.size, 1, none⟩) (by simp) _⟩
theorem is_neg1 : Is 13830554455654793216 (-1) := by
  have h := is_one.neg
  rwa [show Go.Op.negFloat .f64 4607182418800017408 = 13830554455654793216 by kernel_rfl] at h
theorem infoC4 (c : Array Value) (h : c.size = 4) : (Tryd.prog.info? 53).map (·.size) = some c.size := by
  rw [h]
  kernel_rfl
/-- the power of i -/
theorem power_any (n : Int) (w : World) : Calls Tryd.prog 27 #[.int .i64 n] w fun e w' => ∃ a b, e = .returned (.complex .f64 a b) ∧ Is a (turnK (n % 4).toNat (1, 0)).1 ∧ Is b (turnK (n % 4).toNat (1, 0)).2 ∧ Hid (Below w.heap.size w w') := by
  have ha := and3_bits n
  have HB := hid (fun o => below_alloc w o)
  have rs := fun (p : Addr) (a b : Nat) (m : Mode) (W : World) => run_store Tryd.prog W p (.complex .f64 a b) m rfl
  rcases (show n % 4 = 0 ∨ n % 4 = 1 ∨ n % 4 = 2 ∨ n % 4 = 3 by omega) with h | h | h | h <;> rw [h] at ha ⊢ <;> clear h
  all_goals go_enter Tryd.func27, Tryd.ntmps27
  all_goals go_wp2_with fail
  all_goals go_ret
  · exact ⟨_, _, rfl, is_one, is_zero, HB.out _⟩
  · exact ⟨_, _, rfl, is_zero, is_one, HB.out _⟩
  · exact ⟨_, _, rfl, is_neg1, is_zero, HB.out _⟩
  · exact ⟨_, _, rfl, is_zero, is_neg1, HB.out _⟩

end Go.Proofs.YtenncfohifekhaaDoor
