/- What the calls read of the package variables; the program's Print. -/
import Derived.Test.YtenncfohifekhaaDoorShelf
import Derived.Test.YtenncfohifekhaaDoorPos2
import Derived.Test.YtenncfohifekhaaDoorPos3
import Derived.Lib.ItoaNum
import Derived.Lib.ItoaMem
import Derived.Lib.ItoaLen
import Derived.Laws.OwnMore
import Derived.Laws.Strings2
namespace Go.Proofs.YtenncfohifekhaaDoor
open Go.RowKit

/-- what Print reads of the package-level variables -/
structure Env (w : World) : Prop where
  room : 7 < w.heap.size
  pow : Lib.TabIs Tryd.prog w "internal/strconv.uint64pow10" .u64 Lib.pow10Tab
theorem gPow : Tryd.prog.globalNamed "internal/strconv.uint64pow10" = some 3 := by kernel_rfl
theorem Env.below {w w' : World} (h : Env w) (hb : Below w.heap.size w w') : Env w' := by
  refine ⟨Nat.lt_of_lt_of_le h.room hb.size, ?_⟩
  have := h.pow
  unfold Lib.TabIs World.var? at this ⊢
  rw [gPow] at this ⊢
  simp only [Option.bind_some] at this ⊢
  rw [hb.block 3 (Nat.lt_trans (by decide) h.room)]; exact this
theorem grow_below (w : World) (k : Nat) (os : Array Obj) : Below w.heap.size w (Sort.grow (w.drewN k) os) :=
  ⟨rfl, rfl, rfl, by simp, fun i hi => Sort.heap_grow_old (w.drewN k) os hi⟩
theorem itoa_any (n : Int) (w : World) (hE : Env w) (h0 : -9223372036854775808 ≤ n) (h1 : n ≤ 9223372036854775807) :
    Calls Tryd.prog 29 #[.int .i64 n] w fun e w' => e = .returned (.string ⟨(Lib.itoa n).toArray⟩) ∧ Hid (Below w.heap.size w w') := by
  refine (Tryd.strconv_Itoa n h0 h1 w hE.pow).mono ?_
  rintro e w' ⟨rfl, k, os, rfl⟩
  exact ⟨rfl, grow_below w k os⟩
theorem app_ba (a b : List UInt8) : (⟨a.toArray⟩ ++ ⟨b.toArray⟩ : ByteArray) = ⟨(a ++ b).toArray⟩ := by
  apply ByteArray.ext
  simp [ByteArray.data_append]
theorem itoa_len (v : Int) (h0 : -9223372036854775808 ≤ v) (h1 : v ≤ 9223372036854775807) : (Lib.itoa v).length ≤ 21 := Lib.itoa_length_le v h0 h1
theorem ret_str {a b : List UInt8} (h : a = b) : Ending.returned (.string ⟨a.toArray⟩) = .returned (.string ⟨b.toArray⟩) := by rw [h]

set_option maxHeartbeats 2000000 in
set_option maxRecDepth 100000 in
theorem pprint_any (x y : Int) (w : World) (hE : Env w) : Calls Tryd.prog 20 #[pv x y] w fun e w' => e = .returned (txt (printP x y)) ∧ Hid (Below w.heap.size w w') := by
  have HR := hid (fun W => pright_any x y W)
  have HX := hid (pt_new w x y)
  have HB := hid (below_alloc w (pc x y))
  have HE := hid hE
  by_cases h : rt x y = true
  · rw [h] at HR
    obtain ⟨x0, x1, y0, y1⟩ := rt_iff.1 h
    have HI1 := hid (fun W hE => itoa_any x W hE (by omega) (by omega))
    have HI2 := hid (fun W hE => itoa_any y W hE (by omega) (by omega))
    have l1 := itoa_len x (by omega) (by omega)
    have l2 := itoa_len y (by omega) (by omega)
    by_cases hy : y < 0
    · have hP : printP x y = Lib.itoa x ++ [] ++ Lib.itoa y ++ [105] := by
        unfold printP wrt signY
        rw [if_pos h, if_pos hy]
        simp
      have k1 : (⟨(Lib.itoa x).toArray⟩ ++ ⟨#[]⟩ : ByteArray) = ⟨(Lib.itoa x ++ []).toArray⟩ := app_ba _ []
      have k2 : (⟨(Lib.itoa x ++ []).toArray⟩ ++ ⟨(Lib.itoa y).toArray⟩ : ByteArray) = ⟨(Lib.itoa x ++ [] ++ Lib.itoa y).toArray⟩ := app_ba _ _
      have k3 : (⟨(Lib.itoa x ++ [] ++ Lib.itoa y).toArray⟩ ++ ⟨#[105]⟩ : ByteArray) = ⟨(printP x y).toArray⟩ := by rw [hP]; exact app_ba _ [105]
      have l3 : (Lib.itoa x ++ []).length ≤ 22 := by simp; omega
      have l4 : (Lib.itoa x ++ [] ++ Lib.itoa y).length ≤ 43 := by simp; omega
      clear hP
      generalize printP x y = P at *
      generalize Lib.itoa x ++ [] ++ Lib.itoa y = XYS at *
      generalize Lib.itoa x ++ [] = XS at *
      generalize Lib.itoa x = X at *
      generalize Lib.itoa y = Y at *
      have n1 : ¬ 9223372036854775807 < X.length := by omega
      have n2 : ¬ 9223372036854775807 < X.length + 1 := by omega
      have n3 : ¬ 9223372036854775807 < XS.length + Y.length := by omega
      have n4 : ¬ 9223372036854775807 < XYS.length + 1 := by omega
      clear h hE x0 x1 y0 y1 l1 l2 l3 l4
      go_enter Tryd.func20, Tryd.ntmps20
      go_wp2_with fail
      refine (HR.out _).mono ?_; rintro e w1 ⟨rfl, hh⟩
      have HX1 := hid ((hh.out.block w.heap.size (by simp)).trans HX.out)
      have HW1 := hid (HB.out.trans (hh.out.mono HB.out.size))
      have HWd := hid HW1.out.drew
      clear hh
      obtain ⟨⟨a0, a1⟩, -⟩ := pt_facts HX1.out
      go_wp2_with fail
      go_region_law (first
        | (have _q := HX3.out; clear _q; go_simp; go_at_call 29; refine (HI2.out _ (HE.out.below HW3.out)).mono ?_; rintro e w4 ⟨rfl, hh⟩; have HW4 := hid (HW3.out.trans (hh.out.mono HW3.out.size)); clear hh)
        | (go_simp; go_at_call 29; refine (HI1.out _ (HE.out.below HWd.out)).mono ?_; rintro e w3 ⟨rfl, hh⟩; have HX3 := hid ((hh.out.block w.heap.size (Array.getElem?_eq_some_iff.1 HX1.out).1).trans HX1.out); have HW3 := hid (HWd.out.trans (hh.out.mono HWd.out.size)); clear hh; obtain ⟨⟨u0, u1⟩, -⟩ := pt_facts HX3.out))
      all_goals go_wp2_with fail
      all_goals go_ret
      all_goals exact ⟨rfl, HW4.out⟩
    · have hP : printP x y = Lib.itoa x ++ [43] ++ Lib.itoa y ++ [105] := by
        unfold printP wrt signY
        rw [if_pos h, if_neg hy]
        simp
      have k1 : (⟨(Lib.itoa x).toArray⟩ ++ ⟨#[43]⟩ : ByteArray) = ⟨(Lib.itoa x ++ [43]).toArray⟩ := app_ba _ [43]
      have k2 : (⟨(Lib.itoa x ++ [43]).toArray⟩ ++ ⟨(Lib.itoa y).toArray⟩ : ByteArray) = ⟨(Lib.itoa x ++ [43] ++ Lib.itoa y).toArray⟩ := app_ba _ _
      have k3 : (⟨(Lib.itoa x ++ [43] ++ Lib.itoa y).toArray⟩ ++ ⟨#[105]⟩ : ByteArray) = ⟨(printP x y).toArray⟩ := by rw [hP]; exact app_ba _ [105]
      have l3 : (Lib.itoa x ++ [43]).length ≤ 22 := by simp; omega
      have l4 : (Lib.itoa x ++ [43] ++ Lib.itoa y).length ≤ 43 := by simp; omega
      clear hP
      generalize printP x y = P at *
      generalize Lib.itoa x ++ [43] ++ Lib.itoa y = XYS at *
      generalize Lib.itoa x ++ [43] = XS at *
      generalize Lib.itoa x = X at *
      generalize Lib.itoa y = Y at *
      have n1 : ¬ 9223372036854775807 < X.length := by omega
      have n2 : ¬ 9223372036854775807 < X.length + 1 := by omega
      have n3 : ¬ 9223372036854775807 < XS.length + Y.length := by omega
      have n4 : ¬ 9223372036854775807 < XYS.length + 1 := by omega
      clear h hE x0 x1 y0 y1 l1 l2 l3 l4
      go_enter Tryd.func20, Tryd.ntmps20
      go_wp2_with fail
      refine (HR.out _).mono ?_; rintro e w1 ⟨rfl, hh⟩
      have HX1 := hid ((hh.out.block w.heap.size (by simp)).trans HX.out)
      have HW1 := hid (HB.out.trans (hh.out.mono HB.out.size))
      have HWd := hid HW1.out.drew
      clear hh
      obtain ⟨⟨a0, a1⟩, -⟩ := pt_facts HX1.out
      go_wp2_with fail
      go_region_law (first
        | (have _q := HX3.out; clear _q; go_simp; go_at_call 29; refine (HI2.out _ (HE.out.below HW3.out)).mono ?_; rintro e w4 ⟨rfl, hh⟩; have HW4 := hid (HW3.out.trans (hh.out.mono HW3.out.size)); clear hh)
        | (go_simp; go_at_call 29; refine (HI1.out _ (HE.out.below HWd.out)).mono ?_; rintro e w3 ⟨rfl, hh⟩; have HX3 := hid ((hh.out.block w.heap.size (Array.getElem?_eq_some_iff.1 HX1.out).1).trans HX1.out); have HW3 := hid (HWd.out.trans (hh.out.mono HWd.out.size)); clear hh; obtain ⟨⟨u0, u1⟩, -⟩ := pt_facts HX3.out))
      all_goals go_wp2_with fail
      all_goals go_ret
      all_goals exact ⟨rfl, HW4.out⟩
  · have h' : rt x y = false := by simpa using h
    rw [h'] at HR
    rw [show printP x y = [] from if_neg h]
    clear h h'
    go_enter Tryd.func20, Tryd.ntmps20
    go_wp2_with fail
    refine (HR.out _).mono ?_; rintro e w1 ⟨rfl, hh⟩
    have HW1 := hid (HB.out.trans (hh.out.mono HB.out.size))
    clear hh
    go_wp2_with fail
    go_ret
    exact ⟨rfl, HW1.out⟩

end Go.Proofs.YtenncfohifekhaaDoor
