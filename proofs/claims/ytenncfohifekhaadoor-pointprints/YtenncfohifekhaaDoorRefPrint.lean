/- The document's Print; how long a point's writing is. -/
import Derived.Test.YtenncfohifekhaaDoorRefSome
namespace Go.Proofs.YtenncfohifekhaaDoor
open Go.RowKit

theorem dec_len (k : Nat) : ∀ n, n < 10 ^ (k + 1) → (dec n).length ≤ k + 1 := by
  induction k with
  | zero => intro n h; rw [dec_small (by omega)]; simp
  | succ k ih =>
    intro n h
    by_cases h10 : n < 10
    · rw [dec_small h10]; simp
    · rw [dec_big h10, List.length_append]
      have := ih (n / 10) (by rw [Nat.pow_succ] at h; omega)
      simp
      omega
theorem part_len {n : Int} (h0 : -1048576 ≤ n) (h1 : n ≤ 1048576) : 1 ≤ (Lib.itoa n).length ∧ (Lib.itoa n).length ≤ 8 := by
  have h2 := dec_len 6 n.natAbs (by omega)
  have h3 : 1 ≤ (dec n.natAbs).length := by
    have := dec_ne n.natAbs
    cases h : dec n.natAbs with
    | nil => exact absurd h this
    | cons a b => simp
  rw [itoa_parts]
  split
  · simp; omega
  · omega
set_option maxHeartbeats 2000000 in
set_option maxRecDepth 100000 in
theorem rprint_any (x y : Int) (w : World) : Calls Tryd.prog 22 #[pv x y] w fun e w' => e = .returned (txt (printP x y)) ∧ Hid (Below w.heap.size w w') := by
  have HR := hid (fun W => rright_any x y W)
  have HX := hid (pt_new w x y)
  have HB := hid (below_alloc w (pc x y))
  by_cases h : rt x y = true
  · rw [h] at HR
    obtain ⟨x0, x1, y0, y1⟩ := rt_iff.1 h
    have HI1 := hid (fun W => digits_any x W (by omega) (by omega))
    have HI2 := hid (fun W => digits_any y W (by omega) (by omega))
    have l1 := itoa_len x (by omega) (by omega)
    have l2 := itoa_len y (by omega) (by omega)
    by_cases hy : y < 0
    · have hP : printP x y = Lib.itoa x ++ [] ++ Lib.itoa y ++ [105] := by
        unfold printP wrt signY
        rw [if_pos h, if_pos hy]
        simp
      have k1 : (⟨(Lib.itoa x).toArray⟩ ++ ⟨#[]⟩ : ByteArray) = ⟨(Lib.itoa x ++ []).toArray⟩ := app_ba _ []
      have k2 : (⟨(Lib.itoa x ++ []).toArray⟩ ++ ⟨(Lib.itoa y).toArray⟩ : ByteArray) = ⟨(Lib.itoa x ++ [] ++ Lib.itoa y).toArray⟩ := app_ba _ _
      have k3 : (⟨(Lib.itoa x ++ [] ++ Lib.itoa y).toArray⟩ ++ ⟨#[105]⟩ : ByteArray) = ⟨(printP x y).toArray⟩ := by rw [hP]; exact app_ba _ [105]
      have k4 : (⟨(Lib.itoa x).toArray⟩ ++ ⟨(Lib.itoa y).toArray⟩ : ByteArray) = ⟨(Lib.itoa x ++ [] ++ Lib.itoa y).toArray⟩ := by rw [List.append_nil]; exact app_ba _ _
      have l3 : (Lib.itoa x ++ []).length ≤ 22 := by simp; omega
      have l4 : (Lib.itoa x ++ [] ++ Lib.itoa y).length ≤ 43 := by simp; omega
      clear hP
      generalize printP x y = P at *
      generalize Lib.itoa x ++ [] ++ Lib.itoa y = XYS at *
      generalize Lib.itoa x ++ [] = XS at *
      generalize Lib.itoa x = X at *
      generalize Lib.itoa y = Y at *
      have n1 : ¬ 9223372036854775807 < X.length := by omega
      have n5 : ¬ 9223372036854775807 < X.length + Y.length := by omega
      have n2 : ¬ 9223372036854775807 < X.length + 1 := by omega
      have n3 : ¬ 9223372036854775807 < XS.length + Y.length := by omega
      have n4 : ¬ 9223372036854775807 < XYS.length + 1 := by omega
      clear h x0 x1 y0 y1 l1 l2 l3 l4
      go_enter Tryd.func22, Tryd.ntmps22
      go_wp2_with fail
      refine (HR.out _).mono ?_; rintro e w1 ⟨rfl, hh⟩
      have HX1 := hid ((hh.out.block w.heap.size (by simp)).trans HX.out)
      have HW1 := hid (HB.out.trans (hh.out.mono HB.out.size))
      have HWd := hid HW1.out.drew
      clear hh
      obtain ⟨⟨a0, a1⟩, -⟩ := pt_facts HX1.out
      go_wp2_with fail
      go_region_law (first
        | (have _q := HX3.out; clear _q; go_simp; go_at_call 33; refine (HI2.out _).mono ?_; rintro e w4 ⟨rfl, hh⟩; have HW4 := hid (HW3.out.trans (hh.mono HW3.out.size)); clear hh)
        | (go_simp; go_at_call 33; refine (HI1.out _).mono ?_; rintro e w3 ⟨rfl, hh⟩; have HX3 := hid ((hh.block w.heap.size (Array.getElem?_eq_some_iff.1 HX1.out).1).trans HX1.out); have HW3 := hid (HWd.out.trans (hh.mono HWd.out.size)); clear hh; obtain ⟨⟨u0, u1⟩, -⟩ := pt_facts HX3.out))
      all_goals go_wp2_with fail
      all_goals go_ret
      all_goals exact ⟨rfl, HW4.out⟩
    · have hP : printP x y = Lib.itoa x ++ [43] ++ Lib.itoa y ++ [105] := by
        unfold printP wrt signY
        rw [if_pos h, if_neg hy]
        simp
      have k1 : (⟨(Lib.itoa x).toArray⟩ ++ ⟨#[43]⟩ : ByteArray) = ⟨(Lib.itoa x ++ [43]).toArray⟩ := app_ba _ [43]
      have k2 : (⟨(Lib.itoa x ++ [43]).toArray⟩ ++ ⟨(Lib.itoa y).toArray⟩ : ByteArray) = ⟨(Lib.itoa x ++ [43] ++ Lib.itoa y).toArray⟩ := app_ba _ _
      have k3 : (⟨(Lib.itoa x ++ [43] ++ Lib.itoa y).toArray⟩ ++ ⟨#[105]⟩ : ByteArray) = ⟨(printP x y).toArray⟩ := by rw [hP]; exact app_ba _ [105]
      have l3 : (Lib.itoa x ++ [43]).length ≤ 22 := by simp; omega
      have l4 : (Lib.itoa x ++ [43] ++ Lib.itoa y).length ≤ 43 := by simp; omega
      clear hP
      generalize printP x y = P at *
      generalize Lib.itoa x ++ [43] ++ Lib.itoa y = XYS at *
      generalize Lib.itoa x ++ [43] = XS at *
      generalize Lib.itoa x = X at *
      generalize Lib.itoa y = Y at *
      have n1 : ¬ 9223372036854775807 < X.length := by omega
      have n5 : ¬ 9223372036854775807 < X.length + Y.length := by omega
      have n2 : ¬ 9223372036854775807 < X.length + 1 := by omega
      have n3 : ¬ 9223372036854775807 < XS.length + Y.length := by omega
      have n4 : ¬ 9223372036854775807 < XYS.length + 1 := by omega
      clear h x0 x1 y0 y1 l1 l2 l3 l4
      go_enter Tryd.func22, Tryd.ntmps22
      go_wp2_with fail
      refine (HR.out _).mono ?_; rintro e w1 ⟨rfl, hh⟩
      have HX1 := hid ((hh.out.block w.heap.size (by simp)).trans HX.out)
      have HW1 := hid (HB.out.trans (hh.out.mono HB.out.size))
      have HWd := hid HW1.out.drew
      clear hh
      obtain ⟨⟨a0, a1⟩, -⟩ := pt_facts HX1.out
      go_wp2_with fail
      go_region_law (first
        | (have _q := HX3.out; clear _q; go_simp; go_at_call 33; refine (HI2.out _).mono ?_; rintro e w4 ⟨rfl, hh⟩; have HW4 := hid (HW3.out.trans (hh.mono HW3.out.size)); clear hh)
        | (go_simp; go_at_call 33; refine (HI1.out _).mono ?_; rintro e w3 ⟨rfl, hh⟩; have HX3 := hid ((hh.block w.heap.size (Array.getElem?_eq_some_iff.1 HX1.out).1).trans HX1.out); have HW3 := hid (HWd.out.trans (hh.mono HWd.out.size)); clear hh; obtain ⟨⟨u0, u1⟩, -⟩ := pt_facts HX3.out))
      all_goals go_wp2_with fail
      all_goals go_ret
      all_goals exact ⟨rfl, HW4.out⟩
  · have h' : rt x y = false := by simpa using h
    rw [h'] at HR
    rw [show printP x y = [] from if_neg h]
    clear h h'
    go_enter Tryd.func22, Tryd.ntmps22
    go_wp2_with fail
    refine (HR.out _).mono ?_; rintro e w1 ⟨rfl, hh⟩
    have HW1 := hid (HB.out.trans (hh.out.mono HB.out.size))
    clear hh
    go_wp2_with fail
    go_ret
    exact ⟨rfl, HW1.out⟩

end Go.Proofs.YtenncfohifekhaaDoor
