/- The document's read of points. -/
import Derived.Test.YtmjmdfenkhmfbaaDoorRead2
namespace Go.Proofs.YtmjmdfenkhmfbaaDoor
open Go.RowKit

theorem read5_ne (b c : UInt8) : ∀ {r : Nm}, r.length ≠ 6 → readV (5 :: b :: c :: r) = ⟨5, [], [], [], 0, 0⟩
  | [], _ => rfl
  | [_], _ => rfl
  | [_, _], _ => rfl
  | [_, _, _], _ => rfl
  | [_, _, _, _], _ => rfl
  | [_, _, _, _, _], _ => rfl
  | [_, _, _, _, _, _], h => absurd rfl h
  | _ :: _ :: _ :: _ :: _ :: _ :: _ :: _, _ => rfl
theorem six {r : Nm} (h : r.length = 6) : ∃ d e f g i j, r = [d, e, f, g, i, j] := by
  match r, h with
  | [d, e, f, g, i, j], _ => exact ⟨d, e, f, g, i, j, rfl⟩

set_option maxHeartbeats 4000000 in
set_option maxRecDepth 100000 in
theorem read_5 (b c : UInt8) (r : Nm) (w : World) (hs : r.length ≤ 281474976710000) :
    Calls Tryd.prog 41 #[txt (5 :: b :: c :: r)] w fun e w' => ∃ pp pc' ip ic, e = .returned (vv (readV (5 :: b :: c :: r)) pp pc' ip ic) ∧ Hid (VI w' (readV (5 :: b :: c :: r)) pp pc' ip ic ∧ Fr w.heap.size pp ip ∧ Below w.heap.size w w') := by
  obtain ⟨M, hM⟩ : ∃ M, M = readV (5 :: b :: c :: r) := ⟨_, rfl⟩
  rw [← hM]
  by_cases h6 : r.length = 6
  · obtain ⟨d, e, f, g, i, j, rfl⟩ := six h6
    have hM : M = ⟨5, [], [], [], sgn b c d e, sgn f g i j⟩ := by rw [hM]; rfl
    obtain ⟨s, hsd⟩ : ∃ s : Nm, s = 5 :: b :: c :: [d, e, f, g, i, j] := ⟨_, rfl⟩
    rw [← hsd]
    have hlen : s.length = 9 := by rw [hsd]; rfl
    have HAt := hid (fun W => at_any s 1 W (by omega) (by decide))
    rw [at2_is (by omega), show s.getD 1 0 = b by rw [hsd]; rfl, show s.getD (1 + 1) 0 = c by rw [hsd]; rfl] at HAt
    have hB0 : ((((⟨s.toArray⟩ : ByteArray)[0]'(by simp [ByteArray.size]; omega)).toNat : Nat) : Int) = 5 := by subst hsd; rfl
    have hsz : (s.length : Int) ≤ 281474976710656 := by omega
    have h0z : (0 : Int) < (s.length : Int) := by omega
    have hnl := num2_lt b c
    obtain ⟨n, hn⟩ : ∃ n, n = num2 b c := ⟨_, rfl⟩
    rw [← hn] at HAt hnl
    have HA := hid (al_two w (vob zeroV none 0 none 0) (vob ⟨5, [], [], [], 0, 0⟩ none 0 none 0))
    have hl9 : ((s.length : Int) == 9) = true := by rw [hlen]; rfl
    have HS1 := hid (fun W => signed_any s 1 W (by omega) (by omega))
    have HS2 := hid (fun W => signed_any s 5 W (by omega) (by omega))
    rw [show s.getD 1 0 = b by rw [hsd]; rfl, show s.getD (1 + 1) 0 = c by rw [hsd]; rfl, show s.getD (1 + 2) 0 = d by rw [hsd]; rfl, show s.getD (1 + 3) 0 = e by rw [hsd]; rfl] at HS1
    rw [show s.getD 5 0 = f by rw [hsd]; rfl, show s.getD (5 + 1) 0 = g by rw [hsd]; rfl, show s.getD (5 + 2) 0 = i by rw [hsd]; rfl, show s.getD (5 + 3) 0 = j by rw [hsd]; rfl] at HS2
    clear hsd hn
    generalize sgn b c d e = X at *
    generalize sgn f g i j = Y at *
    go_enter Tryd.func41, Tryd.ntmps41
    go_wp2_with fail
    refine (HAt.out _).mono ?_; rintro e w1 ⟨rfl, hh⟩
    have HZ := hid ((hh.out.block w.heap.size (by simp; omega)).trans HA.out.2.1)
    have HY := hid ((hh.out.block (w.heap.size + 1) (by simp)).trans HA.out.2.2.1)
    have HW := hid (HA.out.1.trans (hh.out.mono HA.out.1.size))
    clear hh
    obtain ⟨c0, c1, c2, c3, c4, c5⟩ := val_facts HZ.out
    obtain ⟨g0, g1, g2, g3, g4, g5⟩ := val_frozen HZ.out
    obtain ⟨d0, d1, d2, d3, d4, d5⟩ := val_facts HY.out
    obtain ⟨e0, e1, e2, e3, e4, e5⟩ := val_frozen HY.out
    go_wp2_with fail
    refine (HS1.out _).mono ?_; rintro e w2 ⟨rfl, hh⟩
    have HZ2 := hid ((hh.out.block w.heap.size (Array.getElem?_eq_some_iff.1 HZ.out).1).trans HZ.out)
    have HY2 := hid ((hh.out.block (w.heap.size + 1) (Array.getElem?_eq_some_iff.1 HY.out).1).trans HY.out)
    have HW2 := hid (HW.out.trans (hh.out.mono HW.out.size))
    clear hh c0 c1 c2 c3 c4 c5 g0 g1 g2 g3 g4 g5 d0 d1 d2 d3 d4 d5 e0 e1 e2 e3 e4 e5
    go_wp2_with fail
    refine (HS2.out _).mono ?_; rintro e w3 ⟨rfl, hh⟩
    have HZ3 := hid ((hh.out.block w.heap.size (Array.getElem?_eq_some_iff.1 HZ2.out).1).trans HZ2.out)
    have HY3 := hid ((hh.out.block (w.heap.size + 1) (Array.getElem?_eq_some_iff.1 HY2.out).1).trans HY2.out)
    have HW3 := hid (HW2.out.trans (hh.out.mono HW2.out.size))
    clear hh
    obtain ⟨d0, d1, d2, d3, d4, d5⟩ := val_facts HY3.out
    obtain ⟨e0, e1, e2, e3, e4, e5⟩ := val_frozen HY3.out
    have HZ4 := hid ((heap_setCell_other (w3.setCell ⟨w.heap.size + 1, 4, none⟩ (.int .i64 X)) ⟨w.heap.size + 1, 5, none⟩ w.heap.size (.int .i64 Y) (by simp)).trans ((heap_setCell_other w3 ⟨w.heap.size + 1, 4, none⟩ w.heap.size (.int .i64 X) (by simp)).trans HZ3.out))
    have HW4 := hid ((HW3.out.setCell (p := ⟨w.heap.size + 1, 4, none⟩) (by simp) (.int .i64 X)).setCell (p := ⟨w.heap.size + 1, 5, none⟩) (by simp) (.int .i64 Y))
    obtain ⟨c0, c1, c2, c3, c4, c5⟩ := val_facts HZ4.out
    obtain ⟨g0, g1, g2, g3, g4, g5⟩ := val_frozen HZ4.out
    go_wp2_with fail
    refine bodyPost_ret (v := vv M none 0 none 0) ?_ rfl ?_
    · rw [hM]; exact ret_val rfl rfl (set_six HZ4.out HW4.out (Nat.le_refl _)).1
    · exact ⟨none, 0, none, 0, rfl, by rw [hM]; exact ⟨Rp.nilRow _, Rd.nilRow _⟩, Fr.none _, (set_six HZ4.out HW4.out (Nat.le_refl _)).2⟩
  · have hM : M = ⟨5, [], [], [], 0, 0⟩ := by rw [hM]; exact read5_ne b c h6
    obtain ⟨s, hsd⟩ : ∃ s : Nm, s = 5 :: b :: c :: r := ⟨_, rfl⟩
    rw [← hsd]
    have hlen : s.length = r.length + 3 := by rw [hsd]; rfl
    have HAt := hid (fun W => at_any s 1 W (by omega) (by decide))
    rw [at2_is (by omega), show s.getD 1 0 = b by rw [hsd]; rfl, show s.getD (1 + 1) 0 = c by rw [hsd]; rfl] at HAt
    have hB0 : ((((⟨s.toArray⟩ : ByteArray)[0]'(by simp [ByteArray.size]; omega)).toNat : Nat) : Int) = 5 := by subst hsd; rfl
    have hsz : (s.length : Int) ≤ 281474976710656 := by omega
    have h0z : (0 : Int) < (s.length : Int) := by omega
    have hnl := num2_lt b c
    obtain ⟨n, hn⟩ : ∃ n, n = num2 b c := ⟨_, rfl⟩
    rw [← hn] at HAt hnl
    have HA := hid (al_two w (vob zeroV none 0 none 0) (vob ⟨5, [], [], [], 0, 0⟩ none 0 none 0))
    have hl9 : ((s.length : Int) == 9) = false := beq_eq_false_iff_ne.2 (by omega)
    have hl9' : (s.length : Int) ≠ 9 := by omega
    clear hsd hn
    go_enter Tryd.func41, Tryd.ntmps41
    go_wp2_with fail
    refine (HAt.out _).mono ?_; rintro e w1 ⟨rfl, hh⟩
    have HZ := hid ((hh.out.block w.heap.size (by simp; omega)).trans HA.out.2.1)
    have HY := hid ((hh.out.block (w.heap.size + 1) (by simp)).trans HA.out.2.2.1)
    have HW := hid (HA.out.1.trans (hh.out.mono HA.out.1.size))
    clear hh
    obtain ⟨c0, c1, c2, c3, c4, c5⟩ := val_facts HZ.out
    obtain ⟨g0, g1, g2, g3, g4, g5⟩ := val_frozen HZ.out
    obtain ⟨d0, d1, d2, d3, d4, d5⟩ := val_facts HY.out
    obtain ⟨e0, e1, e2, e3, e4, e5⟩ := val_frozen HY.out
    go_wp2_with fail
    refine bodyPost_ret (v := vv M none 0 none 0) ?_ rfl ?_
    · rw [hM]; exact ret_val rfl rfl (set_six HZ.out HW.out (Nat.le_refl _)).1
    · exact ⟨none, 0, none, 0, rfl, by rw [hM]; exact ⟨Rp.nilRow _, Rd.nilRow _⟩, Fr.none _, (set_six HZ.out HW.out (Nat.le_refl _)).2⟩

end Go.Proofs.YtmjmdfenkhmfbaaDoor
