/- What the program's calls do: what the laws lean on; alive. -/
import Derived.Test.YtenncfohifekhaaDoorPtsB
namespace Go.Proofs.YtenncfohifekhaaDoor
open Go.RowKit

/-- a text's value -/
abbrev txt (t : List UInt8) : Value := .string ⟨t.toArray⟩
structure MethP (V : World → Prop) : Prop where
  env : ∀ {w w' : World}, V w → Below w.heap.size w w' → V w'
  right : ∀ (x y : Int) (w : World), V w → Calls Tryd.prog 16 #[pv x y] w fun e w' => e = .returned (.bool (rt x y)) ∧ Hid (Below w.heap.size w w')
  add : ∀ (a b c d : Int) (w : World), V w → Calls Tryd.prog 9 #[pv a b, pv c d] w fun e w' => e = .returned (tv (addP a b c d)) ∧ Hid (Below w.heap.size w w')
  times : ∀ (a b c d : Int) (w : World), V w → Calls Tryd.prog 12 #[pv a b, pv c d] w fun e w' => e = .returned (tv (mulP a b c d)) ∧ Hid (Below w.heap.size w w')
  turn : ∀ (x y n : Int) (w : World), V w → -9223372036854775808 ≤ n → n ≤ 9223372036854775807 → Calls Tryd.prog 14 #[pv x y, .int .i64 n] w fun e w' => e = .returned (pv (turnP x y n).1 (turnP x y n).2) ∧ Hid (Below w.heap.size w w')
  norm : ∀ (x y : Int) (w : World), V w → Calls Tryd.prog 18 #[pv x y] w fun e w' => e = .returned (.int .i64 (normP x y)) ∧ Hid (Below w.heap.size w w')
  print : ∀ (x y : Int) (w : World), V w → Calls Tryd.prog 20 #[pv x y] w fun e w' => e = .returned (txt (printP x y)) ∧ Hid (Below w.heap.size w w')
theorem print_al : printP 11 2 = [49, 49, 43, 50, 105] := by
  unfold printP wrt signY
  rw [if_pos (by decide), if_neg (by decide), itoa_parts, itoa_parts, if_neg (by decide), if_neg (by decide)]
  rw [show (11 : Int).natAbs = 11 from rfl, show (2 : Int).natAbs = 2 from rfl, dec_big (show ¬ 11 < 10 by decide), dec_small (show 11 / 10 < 10 by decide), dec_small (show 2 < 10 by decide)]
  rfl
/-- a point that a call told, laid in a block -/
theorem pt_new (w : World) (x y : Int) : (w.alloc (pc x y)).heap[w.heap.size]? = some (.cells #[.int .i64 x, .int .i64 y] 23 (0, 0)) := heap_alloc_new w _
set_option maxHeartbeats 2000000 in
set_option maxRecDepth 100000 in
/-- alive -/
theorem alive_any {V : World → Prop} (M : MethP V) (w : World) (hV : V w) : Calls Tryd.prog 11 #[] w fun e w' => e = .returned (.bool true) ∧ Hid (Below w.heap.size w w') := by
  have HM := hid M
  have HV := hid hV
  have HT := hid (M.times 1 2 3 (-4) w hV)
  rw [show mulP 1 2 3 (-4) = ⟨11, 2, 0⟩ from rfl] at HT
  have HP := hid fun W h => HM.out.print 11 2 W h
  rw [print_al] at HP
  have HR := hid fun W h => HM.out.right 11 2 W h
  rw [show rt 11 2 = true by decide] at HR
  have HN := hid fun W h => HM.out.norm 11 2 W h
  rw [show normP 11 2 = 125 by decide] at HN
  clear M hV
  go_enter Tryd.func11, Tryd.ntmps11
  go_wp2_with fail
  refine HT.out.mono ?_; rintro e w1 ⟨rfl, hh⟩
  have HX1 := hid (pt_new w1 11 2)
  have HW1 := hid (hh.out.trans ((below_alloc w1 (pc 11 2)).mono hh.out.size))
  clear hh
  obtain ⟨⟨c0, c1⟩, -⟩ := pt_facts HX1.out
  go_wp2_with fail
  refine (HP.out _ (HM.out.env HV.out HW1.out)).mono ?_; rintro e w2 ⟨rfl, hh⟩
  have HX2 := hid ((hh.out.block w1.heap.size (by simp)).trans HX1.out)
  have HW2 := hid (HW1.out.trans (hh.out.mono HW1.out.size))
  have hl2 : w1.heap.size < w2.heap.size := (Array.getElem?_eq_some_iff.1 HX2.out).1
  clear hh c0 c1
  obtain ⟨⟨c0, c1⟩, -⟩ := pt_facts HX2.out
  go_wp2_with fail
  refine (HR.out _ (HM.out.env HV.out HW2.out)).mono ?_; rintro e w3 ⟨rfl, hh⟩
  have HX3 := hid ((hh.out.block w1.heap.size hl2).trans HX2.out)
  have HW3 := hid (HW2.out.trans (hh.out.mono HW2.out.size))
  clear hh c0 c1
  obtain ⟨⟨c0, c1⟩, -⟩ := pt_facts HX3.out
  go_wp2_with fail
  refine (HN.out _ (HM.out.env HV.out HW3.out)).mono ?_; rintro e w4 ⟨rfl, hh⟩
  have HW4 := hid (HW3.out.trans (hh.out.mono HW3.out.size))
  clear hh
  go_wp2_with fail
  go_ret
  exact ⟨rfl, HW4.out⟩

end Go.Proofs.YtenncfohifekhaaDoor
