/- The document's Norm and Turn. -/
import Derived.Test.YtenncfohifekhaaDoorPtsB
namespace Go.Proofs.YtenncfohifekhaaDoor
open Go.RowKit

set_option maxHeartbeats 1000000 in
set_option maxRecDepth 100000 in
/-- ref Norm -/
theorem rnorm_any (x y : Int) (w : World) : Calls Tryd.prog 19 #[pv x y] w fun e w' => e = .returned (.int .i64 (normP x y)) ∧ Hid (Below w.heap.size w w') := by
  have HR := hid (fun W => rright_any x y W)
  have HA := hid (heap_alloc_new w (pc x y))
  have HB := hid (below_alloc w (pc x y))
  by_cases h : rt x y = true
  · rw [show normP x y = x * x + y * y from if_pos h]
    rw [h] at HR
    obtain ⟨a0, a1, b0, b1⟩ := rt_iff.1 h
    have m1 := part_mul a0 a1 a0 a1
    have m2 := part_mul b0 b1 b0 b1
    clear h
    go_enter Tryd.func19, Tryd.ntmps19
    go_wp2_with fail
    refine (HR.out _).mono ?_; rintro e w1 ⟨rfl, hh⟩
    obtain ⟨⟨c0, c1⟩, -⟩ := pt_facts ((hh.out.block w.heap.size (by simp)).trans HA.out)
    have HW := hid (HB.out.trans (hh.out.mono HB.out.size))
    clear hh
    go_wp2_with fail
    go_ret
    exact ⟨rfl, HW.out⟩
  · have h' : rt x y = false := by simpa using h
    rw [show normP x y = 0 from if_neg h]
    rw [h'] at HR
    clear h h'
    go_enter Tryd.func19, Tryd.ntmps19
    go_wp2_with fail
    refine (HR.out _).mono ?_; rintro e w1 ⟨rfl, hh⟩
    have HW := hid (HB.out.trans (hh.out.mono HB.out.size))
    clear hh
    go_wp2_with fail
    go_ret
    exact ⟨rfl, HW.out⟩
theorem rt_turn {p : Int × Int} (h : rt p.1 p.2 = true) : rt (turn1 p).1 (turn1 p).2 = true := by
  obtain ⟨a0, a1, b0, b1⟩ := rt_iff.1 h
  exact rt_iff.2 ⟨by show -1048576 ≤ -p.2; omega, by show -p.2 ≤ 1048576; omega, a0, a1⟩
theorem rt_turnK {p : Int × Int} (h : rt p.1 p.2 = true) : ∀ k, rt (turnK k p).1 (turnK k p).2 = true
  | 0 => h
  | k + 1 => rt_turn (rt_turnK h k)
set_option maxHeartbeats 2000000 in
set_option maxRecDepth 100000 in
/-- ref Turn -/
theorem rturn_any (x y n : Int) (w : World) (n0 : -9223372036854775808 ≤ n) (n1 : n ≤ 9223372036854775807) : Calls Tryd.prog 15 #[pv x y, .int .i64 n] w fun e w' => e = .returned (pv (turnP x y n).1 (turnP x y n).2) ∧ Hid (Below w.heap.size w w') := by
  have HR := hid (fun W => rright_any x y W)
  have HA := hid (al2 w (pc x y) (pc 0 0))
  by_cases h : rt x y = true
  · rw [show turnP x y n = turnK (n % 4).toNat (x, y) from if_pos h]
    rw [h] at HR
    obtain ⟨k, hk⟩ : ∃ k, k = (n % 4).toNat := ⟨_, rfl⟩
    rw [← hk]
    have hk4 : k < 4 := by omega
    have HT := hid (fun j => rt_turnK (p := (x, y)) h j)
    obtain ⟨R, hR⟩ : ∃ R, R = turnK k (x, y) := ⟨_, rfl⟩
    rw [← hR]
    have HRk := hid hR
    have hm : (n.tmod 4 < 0 ∧ n.tmod 4 + 4 = (k : Int)) ∨ (¬ n.tmod 4 < 0 ∧ n.tmod 4 = (k : Int)) := by
      by_cases hn : 0 ≤ n
      · right
        rw [Int.tmod_eq_emod_of_nonneg hn]
        omega
      · obtain ⟨m, rfl⟩ : ∃ m : Nat, n = -(m : Int) := ⟨(-n).toNat, by omega⟩
        rw [Int.neg_tmod, Int.tmod_eq_emod_of_nonneg (by omega)]
        omega
    clear h hR hk
    generalize hq : n.tmod 4 = q at *
    have hq4 : -4 ≤ q ∧ q < 4 := by omega
    go_enter Tryd.func15, Tryd.ntmps15
    go_wp2_with fail
    refine (HR.out _).mono ?_; rintro e w1 ⟨rfl, hh⟩
    have HX1 := hid ((hh.out.block w.heap.size (by simp; omega)).trans HA.out.2.1)
    have HY1 := hid ((hh.out.block (w.heap.size + 1) (by simp)).trans HA.out.2.2.1)
    have HW1 := hid (HA.out.1.trans (hh.out.mono HA.out.1.size))
    clear hh
    rcases hm with ⟨hm1, hm2⟩ | ⟨hm1, hm2⟩
    all_goals
      go_wp2_with fail
      go_loopw [6] (fun v6 W => ∃ j : Nat, v6 = .int .i64 j ∧ j ≤ k ∧ Hid (W.heap[w.heap.size]? = some (.cells #[.int .i64 (turnK j (x, y)).1, .int .i64 (turnK j (x, y)).2] 23 (0, 0))) ∧ Hid (W.heap[w.heap.size + 1]? = some (.cells #[.int .i64 0, .int .i64 0] 23 (0, 0))) ∧ Hid (Below w.heap.size w W)) (fun v6 _ => k - (intOf v6).toNat)
      case atStart => exact ⟨0, rfl, Nat.zero_le _, HX1.out, HY1.out, HW1.out⟩
      case round =>
        obtain ⟨j, rfl, hj, HX, HY, HW⟩ := hrel
        by_cases hlt : j < k
        · have hjz : (j : Int) < (k : Int) := by omega
          obtain ⟨⟨c0, c1⟩, f0, f1⟩ := pt_facts HX.out
          obtain ⟨a0, a1, b0, b1⟩ := rt_iff.1 (HT.out j)
          have HNx : Hid (turnK (j + 1) (x, y) = (-(turnK j (x, y)).2, (turnK j (x, y)).1)) := rfl
          generalize hT2 : turnK (j + 1) (x, y) = T2 at *
          generalize turnK j (x, y) = T1 at *
          obtain ⟨t1, t2⟩ := T1
          simp only at c0 c1 a0 a1 b0 b1 HX HNx
          have hl1 := (Array.getElem?_eq_some_iff.1 HX.out).1
          go_wp2_with fail
          refine ⟨⟨j + 1, by go_num, by omega, ?_, ?_, ?_⟩, by simp [intOf]; omega⟩
          · rw [hT2, HNx.out]; exact heap_setCell_same _ w.heap.size 1 _ _ _ (heap_setCell_same _ w.heap.size 0 _ _ _ HX.out)
          · rw [heap_setCell_other _ _ _ _ (by simp), heap_setCell_other _ _ _ _ (by simp)]; exact HY.out
          · exact (HW.out.setCell (p := ⟨w.heap.size, 0, none⟩) (Nat.le_refl _) _).setCell (p := ⟨w.heap.size, 1, none⟩) (Nat.le_refl _) _
        · obtain rfl : j = k := by omega
          rw [← HRk.out] at HX
          obtain ⟨⟨c0, c1⟩, -⟩ := pt_facts HX.out
          obtain ⟨⟨d0, d1⟩, f0, f1⟩ := pt_facts HY.out
          go_wp2_with fail
          refine bodyPost_ret (v := pv R.1 R.2) ?_ rfl ?_
          · exact ret_pt rfl rfl (heap_setCell_same _ (w.heap.size + 1) 1 _ _ _ (heap_setCell_same _ (w.heap.size + 1) 0 _ _ _ HY.out))
          · exact ⟨rfl, (HW.out.setCell (p := ⟨w.heap.size + 1, 0, none⟩) (by simp) _).setCell (p := ⟨w.heap.size + 1, 1, none⟩) (by simp) _⟩
  · have h' : rt x y = false := by simpa using h
    rw [show turnP x y n = (0, 0) from if_neg h]
    rw [h'] at HR
    clear h h'
    go_enter Tryd.func15, Tryd.ntmps15
    go_wp2_with fail
    refine (HR.out _).mono ?_; rintro e w1 ⟨rfl, hh⟩
    have hb := (hh.out.block (w.heap.size + 1) (by simp)).trans HA.out.2.2.1
    obtain ⟨⟨d0, d1⟩, f0, f1⟩ := pt_facts hb
    have HB := hid hb
    have HW := hid (HA.out.1.trans (hh.out.mono HA.out.1.size))
    clear hh hb
    go_wp2_with fail
    refine bodyPost_ret (v := pv 0 0) ?_ rfl ?_
    · exact ret_pt rfl rfl (heap_setCell_same _ (w.heap.size + 1) 1 _ _ _ (heap_setCell_same _ (w.heap.size + 1) 0 _ _ _ HB.out))
    · exact ⟨rfl, (HW.out.setCell (p := ⟨w.heap.size + 1, 0, none⟩) (by simp) _).setCell (p := ⟨w.heap.size + 1, 1, none⟩) (by simp) _⟩

end Go.Proofs.YtenncfohifekhaaDoor
