/- The program's Turn and Norm. -/
import Derived.Test.YtenncfohifekhaaDoorPos
import Derived.Test.YtenncfohifekhaaDoorRefTurn
namespace Go.Proofs.YtenncfohifekhaaDoor
open Go.RowKit

/-- a turn is a product with a power of i -/
theorem turn_mul (x y : Int) : ∀ k, turnK k (x, y) = (x * (turnK k (1, 0)).1 - y * (turnK k (1, 0)).2, x * (turnK k (1, 0)).2 + y * (turnK k (1, 0)).1)
  | 0 => by show (x, y) = (x * 1 - y * 0, x * 0 + y * 1); simp
  | k + 1 => by
    show turn1 (turnK k (x, y)) = (x * (turn1 (turnK k (1, 0))).1 - y * (turn1 (turnK k (1, 0))).2, x * (turn1 (turnK k (1, 0))).2 + y * (turn1 (turnK k (1, 0))).1)
    rw [turn_mul x y k]
    generalize turnK k (1, 0) = P
    obtain ⟨u, v⟩ := P
    simp only [turn1, Int.mul_neg, Prod.mk.injEq]
    constructor <;> omega
theorem neg_run (b : Nat) (W : World) : (Op.unary .neg (.float .f64 b)).run Tryd.prog W = .ok (.float .f64 (Go.Op.negFloat .f64 b)) W := rfl
theorem unit_rt (k : Nat) : rt (turnK k (1, 0)).1 (turnK k (1, 0)).2 = true := rt_turnK (p := (1, 0)) (by decide) k

set_option maxHeartbeats 2000000 in
set_option maxRecDepth 100000 in
theorem pturn_any (x y n : Int) (w : World) : Calls Tryd.prog 14 #[pv x y, .int .i64 n] w fun e w' => e = .returned (pv (turnP x y n).1 (turnP x y n).2) ∧ Hid (Below w.heap.size w w') := by
  have HR := hid (fun W => pright_any x y W)
  have HA := hid (al2 w (pc x y) (pc 0 0))
  by_cases h : rt x y = true
  · rw [h] at HR
    obtain ⟨x0, x1, y0, y1⟩ := rt_iff.1 h
    have hT : turnP x y n = turnK (n % 4).toNat (x, y) := if_pos h
    have hr : rt (turnP x y n).1 (turnP x y n).2 = true := by rw [hT]; exact rt_turnK (p := (x, y)) h _
    have hu := unit_rt (n % 4).toNat
    rw [turn_mul] at hT
    have HP := hid (fun W => power_any n W)
    generalize turnK (n % 4).toNat (1, 0) = U at *
    obtain ⟨u, v⟩ := U
    generalize turnP x y n = T at *
    obtain ⟨tx, ty⟩ := T
    obtain ⟨rfl, rfl⟩ := Prod.mk.inj hT
    obtain ⟨u0, u1, v0, v1⟩ := rt_iff.1 hu
    obtain ⟨s0, s1, t0, t1⟩ := rt_iff.1 hr
    dsimp only at HP hr u0 u1 v0 v1 s0 s1 t0 t1 ⊢
    have HC := hid (fun W => within_any x y W)
    have HM : Hid (∀ {a b : Nat}, Is a u → Is b v → ∃ re im, (∀ W, (binOp .mul 37 (.complex .f64 (floatOfInt .f64 x) (floatOfInt .f64 y)) (.complex .f64 a b)).run Tryd.prog W = .ok (.complex .f64 re im) W) ∧ Is re (x * u - y * v) ∧ Is im (x * v + y * u)) :=
      fun {a b} i1 i2 => cmul_run (Is.of_int x (by omega)) (Is.of_int y (by omega)) i1 i2 (by omega) (by omega) (by omega) (by omega) (by omega) (by omega) (by omega) (by omega)
    have HTd : Hid (∀ {f g : Nat} (W : World), Is f (x * u - y * v) → Is g (x * v + y * u) → Calls Tryd.prog 24 #[.complex .f64 f g] W fun e w' => e = .returned (tv ⟨x * u - y * v, x * v + y * u, 0⟩) ∧ Hid (Below W.heap.size W w')) := fun W i1 i2 => by
      have := told_any i1 i2 W (by omega) (by omega)
      rwa [show may (x * u - y * v) (x * v + y * u) = ⟨x * u - y * v, x * v + y * u, 0⟩ from if_pos hr] at this
    generalize x * u - y * v = X at *
    generalize x * v + y * u = Y at *
    clear hT h hr hu x0 x1 y0 y1 u0 u1 v0 v1 s0 s1 t0 t1
    generalize floatOfInt .f64 x = fx at *
    generalize floatOfInt .f64 y = fy at *
    go_enter Tryd.func14, Tryd.ntmps14
    go_wp2_with fail
    refine (HR.out _).mono ?_; rintro e w1 ⟨rfl, hh⟩
    have HW1 := hid (HA.out.1.trans (hh.out.mono HA.out.1.size))
    have HX1 := hid ((hh.out.block w.heap.size (by simp; omega)).trans HA.out.2.1)
    have HZ1 := hid ((hh.out.block (w.heap.size + 1) (by simp)).trans HA.out.2.2.1)
    clear hh
    obtain ⟨⟨a0, a1⟩, -⟩ := pt_facts HX1.out
    go_wp2_with fail
    refine (HC.out _).mono ?_; rintro e w2 ⟨rfl, hh⟩
    have HZ2 := hid ((hh.out.block (w.heap.size + 1) (Array.getElem?_eq_some_iff.1 HZ1.out).1).trans HZ1.out)
    have HW2 := hid (HW1.out.trans (hh.out.mono HW1.out.size))
    clear hh a0 a1
    go_wp2_with fail
    refine (HP.out _).mono ?_; rintro e w3 ⟨f, g, rfl, i1, i2, hh⟩
    have HZ3 := hid ((hh.out.block (w.heap.size + 1) (Array.getElem?_eq_some_iff.1 HZ2.out).1).trans HZ2.out)
    have HW3 := hid (HW2.out.trans (hh.out.mono HW2.out.size))
    obtain ⟨re, im, rr, j1, j2⟩ := HM.out i1 i2
    have HJ := hid (And.intro j1 j2)
    clear hh i1 i2 j1 j2
    go_wp2_with fail
    refine (HTd.out _ HJ.out.1 HJ.out.2).mono ?_; rintro e w4 ⟨rfl, hh⟩
    have HZ4 := hid ((hh.out.block (w.heap.size + 1) (Array.getElem?_eq_some_iff.1 HZ3.out).1).trans HZ3.out)
    have HW4 := hid (HW3.out.trans (hh.out.mono HW3.out.size))
    have hz : w.heap.size + 1 < w4.heap.size := (Array.getElem?_eq_some_iff.1 HZ4.out).1
    clear hh
    obtain ⟨⟨d0, d1⟩, e0, e1⟩ := pt_facts HZ4.out
    obtain ⟨⟨b0, b1⟩, -⟩ := pt_facts (pt_new w4 X Y)
    go_wp2_with fail
    refine bodyPost_ret (v := pv X Y) ?_ rfl ?_
    · exact ret_pt rfl rfl ((heap_alloc_old _ _ (by simp; omega)).trans (heap_setCell_same _ (w.heap.size + 1) 1 _ _ _ (heap_setCell_same _ (w.heap.size + 1) 0 _ _ _ HZ4.out)))
    · have hs := (HW4.out.setCell (p := ⟨w.heap.size + 1, 0, none⟩) (by simp) (.int .i64 X)).setCell (p := ⟨w.heap.size + 1, 1, none⟩) (by simp) (.int .i64 Y)
      exact ⟨rfl, hs.trans ((below_alloc _ _).mono hs.size)⟩
  · have h' : rt x y = false := by simpa using h
    rw [h'] at HR
    rw [show turnP x y n = (0, 0) from if_neg h]
    clear h h'
    go_enter Tryd.func14, Tryd.ntmps14
    go_wp2_with fail
    refine (HR.out _).mono ?_; rintro e w1 ⟨rfl, hh⟩
    have HW1 := hid (HA.out.1.trans (hh.out.mono HA.out.1.size))
    have HZ1 := hid ((hh.out.block (w.heap.size + 1) (by simp)).trans HA.out.2.2.1)
    clear hh
    obtain ⟨⟨d0, d1⟩, e0, e1⟩ := pt_facts HZ1.out
    go_wp2_with fail
    refine bodyPost_ret (v := pv 0 0) ?_ rfl ?_
    · exact ret_pt rfl rfl (heap_setCell_same _ (w.heap.size + 1) 1 _ _ _ (heap_setCell_same _ (w.heap.size + 1) 0 _ _ _ HZ1.out))
    · exact ⟨rfl, (HW1.out.setCell (p := ⟨w.heap.size + 1, 0, none⟩) (by simp) _).setCell (p := ⟨w.heap.size + 1, 1, none⟩) (by simp) _⟩

set_option maxHeartbeats 2000000 in
set_option maxRecDepth 100000 in
theorem pnorm_any (x y : Int) (w : World) : Calls Tryd.prog 18 #[pv x y] w fun e w' => e = .returned (.int .i64 (normP x y)) ∧ Hid (Below w.heap.size w w') := by
  have HR := hid (fun W => pright_any x y W)
  have HX := hid (pt_new w x y)
  have HB := hid (below_alloc w (pc x y))
  by_cases h : rt x y = true
  · rw [h] at HR
    obtain ⟨x0, x1, y0, y1⟩ := rt_iff.1 h
    rw [show normP x y = x * x + y * y from if_pos h]
    have HC := hid (fun W => within_any x y W)
    obtain ⟨re, im, rr, j1, j2⟩ := cmul_run (Is.of_int x (by omega)) (Is.of_int y (by omega)) (Is.of_int x (by omega)) (Is.of_int y (by omega)).neg (by omega) (by omega) (by omega) (by omega) (by omega) (by omega) (by omega) (by omega)
    rw [show x * x - y * -y = x * x + y * y by rw [Int.mul_neg]; omega] at j1
    have m1 := part_mul x0 x1 x0 x1
    have m2 := part_mul y0 y1 y0 y1
    have ri := to_int_run j1 (by omega) (by omega)
    generalize x * x + y * y = N at *
    have rn := fun W => neg_run (floatOfInt .f64 y) W
    clear h x0 x1 y0 y1 j1 j2 m1 m2
    generalize floatOfInt .f64 x = fx at *
    generalize floatOfInt .f64 y = fy at *
    go_enter Tryd.func18, Tryd.ntmps18
    go_wp2_with fail
    refine (HR.out _).mono ?_; rintro e w1 ⟨rfl, hh⟩
    have HX1 := hid ((hh.out.block w.heap.size (by simp)).trans HX.out)
    have HW1 := hid (HB.out.trans (hh.out.mono HB.out.size))
    clear hh
    obtain ⟨⟨a0, a1⟩, -⟩ := pt_facts HX1.out
    go_wp2_with fail
    refine (HC.out _).mono ?_; rintro e w2 ⟨rfl, hh⟩
    have HW2 := hid (HW1.out.trans (hh.out.mono HW1.out.size))
    clear hh a0 a1
    go_wp2_with fail
    go_ret
    exact ⟨rfl, HW2.out⟩
  · have h' : rt x y = false := by simpa using h
    rw [h'] at HR
    rw [show normP x y = 0 from if_neg h]
    clear h h'
    go_enter Tryd.func18, Tryd.ntmps18
    go_wp2_with fail
    refine (HR.out _).mono ?_; rintro e w1 ⟨rfl, hh⟩
    have HW1 := hid (HB.out.trans (hh.out.mono HB.out.size))
    clear hh
    go_wp2_with fail
    go_ret
    exact ⟨rfl, HW1.out⟩

end Go.Proofs.YtenncfohifekhaaDoor
