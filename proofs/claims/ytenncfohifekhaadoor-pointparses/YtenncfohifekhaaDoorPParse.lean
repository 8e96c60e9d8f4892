/- The program's Parse. -/
import Derived.Test.YtenncfohifekhaaDoorAtoiP
namespace Go.Proofs.YtenncfohifekhaaDoor
open Go.RowKit

theorem drop_ba (l : List UInt8) (i : Nat) : (⟨l.toArray⟩ : ByteArray).extract i l.length = ⟨(l.drop i).toArray⟩ := by
  apply ByteArray.ext
  simp only [ByteArray.data_extract, List.extract_toArray, List.extract_eq_take_drop]
  rw [List.take_of_length_le (by simp)]
theorem take_ba' (l : List UInt8) (i : Nat) : (⟨l.toArray⟩ : ByteArray).extract 0 i = ⟨(l.take i).toArray⟩ := take_ba _ l rfl i

set_option maxHeartbeats 4000000 in
set_option maxRecDepth 100000 in
/-- a point's writing is read -/
theorem pparse_wr (s : List UInt8) (x y : Int) (hW : Wr s x y) (w : World) (hE : EnvA w) :
    Calls Tryd.prog 21 #[txt s] w fun e w' => e = .returned (tv ⟨x, y, 0⟩) ∧ Hid (Below w.heap.size w w') := by
  obtain ⟨x0, x1, y0, y1⟩ := rt_iff.1 hW.1
  have hs : s = (Lib.itoa x ++ signY y) ++ [105] := by rw [← hW.2]; unfold wrt; rw [List.append_assoc]
  have l1 := itoa_len x (by omega) (by omega)
  have l2 : (signY y).length ≤ 22 := by
    have := itoa_len y (by omega) (by omega)
    unfold signY
    split
    · omega
    · simp; omega
  have HC := hid (fun W => cut_any s W (by rw [hs]; simp; omega))
  rw [hs, has_wr, trim_wr, ← hs] at HC
  have HL : Hid (∀ W : World, Envs W → Calls Tryd.prog 31 #[.string ⟨(Lib.itoa x ++ signY y).toArray⟩, .string ⟨#[43, 45]⟩] W fun e w' => e = .returned (.int .i64 ((Lib.itoa x).length : Int)) ∧ Hid (Below W.heap.size W w')) := fun W hV => by
    refine (last_any (Lib.itoa x ++ signY y) W hV (by simp; omega)).mono ?_
    rintro e w' ⟨⟨k, rfl, h2⟩, h3⟩
    exact ⟨by rw [last_wrt h2], h3⟩
  have HA1 := hid (fun W => atoi_ok (Lib.itoa x) x W (by omega) (atoi_itoa x (by omega) (by omega)))
  have HA2 := hid (fun W => atoi_ok (signY y) y W (by omega) (atoi_signY y (by omega) (by omega)))
  have HP := hid (fun W hW => pprint_any x y W hW)
  rw [hW.print] at HP
  have HA := hid (al2 w (pc 0 0) (pc x y))
  have HE := hid hE
  have e1 : (⟨(Lib.itoa x ++ signY y).toArray⟩ : ByteArray).extract 0 (Lib.itoa x).length = ⟨(Lib.itoa x).toArray⟩ := by rw [take_ba']; simp
  have e2 : (⟨(Lib.itoa x ++ signY y).toArray⟩ : ByteArray).extract (Lib.itoa x).length (Lib.itoa x ++ signY y).length = ⟨(signY y).toArray⟩ := by rw [drop_ba]; simp
  have l3 : (Lib.itoa x).length ≤ (Lib.itoa x ++ signY y).length := by simp
  have l4 : (Lib.itoa x ++ signY y).length ≤ 43 := by simp; omega
  generalize Lib.itoa x ++ signY y = P at *
  generalize Lib.itoa x = X at *
  generalize signY y = Y at *
  have l3z : (X.length : Int) ≤ (P.length : Int) := by omega
  have l4z : (P.length : Int) ≤ 43 := by omega
  clear hs hW hE x0 x1 y0 y1 l1 l2 l3 l4
  go_enter Tryd.func21, Tryd.ntmps21
  go_wp2_with fail
  refine (HC.out _).mono ?_; rintro e w1 ⟨rfl, hw⟩
  rw [hw]; clear hw w1
  go_wp2_with fail
  have HZ1 := hid (heap_alloc_new w (pc 0 0))
  have HW1 := hid (below_alloc w (pc 0 0))
  refine (HL.out _ (HE.out.below HW1.out).envs).mono ?_; rintro e w2 ⟨rfl, hh⟩
  have HZ2 := hid ((hh.out.block w.heap.size (by simp)).trans HZ1.out)
  have HW2 := hid (HW1.out.trans (hh.out.mono HW1.out.size))
  clear hh
  go_wp2_with fail
  refine (HA1.out _).mono ?_; rintro e w3 ⟨rfl, hh⟩
  have HZ3 := hid ((hh.out.block w.heap.size (Array.getElem?_eq_some_iff.1 HZ2.out).1).trans HZ2.out)
  have HW3 := hid (HW2.out.trans (hh.out.mono HW2.out.size))
  clear hh
  go_wp2_with fail
  refine (HA2.out _).mono ?_; rintro e w4 ⟨rfl, hh⟩
  have HZ4 := hid ((hh.out.block w.heap.size (Array.getElem?_eq_some_iff.1 HZ3.out).1).trans HZ3.out)
  have HW4 := hid (HW3.out.trans (hh.out.mono HW3.out.size))
  clear hh
  go_wp2_with fail
  have HX5 := hid (pt_new w4 x y)
  have HW5 := hid (HW4.out.trans ((below_alloc w4 (pc x y)).mono HW4.out.size))
  have HZ5 := hid (((below_alloc w4 (pc x y)).block w.heap.size (Array.getElem?_eq_some_iff.1 HZ4.out).1).trans HZ4.out)
  refine (HP.out _ (HE.out.below HW5.out).env).mono ?_; rintro e w6 ⟨rfl, hh⟩
  have HX6 := hid ((hh.out.block w4.heap.size (by simp)).trans HX5.out)
  have HZ6 := hid ((hh.out.block w.heap.size (Array.getElem?_eq_some_iff.1 HZ5.out).1).trans HZ5.out)
  have HW6 := hid (HW5.out.trans (hh.out.mono HW5.out.size))
  clear hh
  obtain ⟨⟨a0, a1⟩, -⟩ := pt_facts HX6.out
  obtain ⟨⟨z0, z1⟩, g0, g1⟩ := pt_facts HZ6.out
  go_wp2_with fail
  refine bodyPost_ret (v := tv ⟨x, y, 0⟩) ?_ rfl ?_
  · exact ret_tel rfl rfl rfl (heap_setCell_same _ w.heap.size 1 _ _ _ (heap_setCell_same _ w.heap.size 0 _ _ _ HZ6.out))
  · exact ⟨rfl, (HW6.out.setCell (p := ⟨w.heap.size, 0, none⟩) (by simp) _).setCell (p := ⟨w.heap.size, 1, none⟩) (by simp) _⟩

end Go.Proofs.YtenncfohifekhaaDoor
