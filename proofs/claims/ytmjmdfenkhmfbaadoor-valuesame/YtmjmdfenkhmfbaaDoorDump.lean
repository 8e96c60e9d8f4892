/- The document's Dump. -/
import Derived.Test.YtmjmdfenkhmfbaaDoorDumpB
namespace Go.Proofs.YtmjmdfenkhmfbaaDoor
open Go.RowKit

set_option maxHeartbeats 2000000 in
set_option maxRecDepth 100000 in
/-- ref Dump -/
theorem rdump_any (m : Vl) (pp : Option Addr) (pc' : Nat) (ip : Option Addr) (ic : Nat) (w : World) (hS : Short m) (hV : VI w m pp pc' ip ic) :
    Calls Tryd.prog 18 #[vv m pp pc' ip ic] w fun e w' => e = .returned (.tuple #[txt (dumpS m), .bool (rightB m)]) ∧ Hid (Below w.heap.size w w') := by
  have HB := hid (below_alloc w (vob m pp pc' ip ic))
  have HX := hid (val_new w m pp pc' ip ic)
  have HVI := hid hV
  have HR := hid (fun W h => rright10_any m pp pc' ip ic W hS h)
  obtain ⟨c0, c1, c2, c3, c4, c5⟩ := val_facts HX.out
  by_cases h : rightB m = true
  · have HBo := hid (fun W h' => body_any m (rightB_iff.1 h) pp pc' ip ic W h')
    rw [show dumpS m = dumpV m from if_pos h]
    rw [h] at HR ⊢
    have hmax := body_max (rightB_iff.1 h)
    have HSm := hid (fun q d W hb => r1sum_any q d (bodyV m) W hb)
    have hslt := sumN_lt (bodyV m)
    have HT := hid (fun W => two_any (sumN (bodyV m)) W hslt)
    have hcat : (⟨(bodyV m).toArray⟩ ++ ⟨(two (sumN (bodyV m))).toArray⟩ : ByteArray) = ⟨(dumpV m).toArray⟩ := app_ba _ _
    have l2 := two_len (sumN (bodyV m))
    generalize dumpV m = D at *
    generalize two (sumN (bodyV m)) = T2 at *
    generalize sumN (bodyV m) = sm at *
    have hsz : (sm : Int) < 65536 := by omega
    have hwr : IntKind.i64.wrap (sm : Int) = (sm : Int) := by rw [IntKind.wrap_i64]; omega
    generalize bodyV m = Bd at *
    have hbz : (Bd.length : Int) ≤ 1000000 := by omega
    have n1 : ¬ 9223372036854775807 < Bd.length + T2.length := by omega
    have n2 : ¬ 9223372036854775807 < Bd.length + 2 := by omega
    clear h hS hV
    go_enter Tryd.func18, Tryd.ntmps18
    go_wp2_with fail
    refine (HR.out _ (HVI.out.below HB.out)).mono ?_; rintro e w1 ⟨rfl, hh⟩
    have HX1 := hid ((hh.out.block w.heap.size (by simp)).trans HX.out)
    have HW1 := hid (HB.out.trans (hh.out.mono HB.out.size))
    clear hh c0 c1 c2 c3 c4 c5
    obtain ⟨c0, c1, c2, c3, c4, c5⟩ := val_facts HX1.out
    go_wp2_with fail
    refine (HBo.out _ (HVI.out.below HW1.out)).mono ?_; rintro e w2 ⟨q, d, rfl, hh⟩
    have HO2 := hid hh.out.1
    have HW2 := hid (HW1.out.trans (hh.out.2.mono HW1.out.size))
    clear hh c0 c1 c2 c3 c4 c5
    go_wp2_with fail
    refine (HSm.out q d _ (own_byts HO2.out (by omega))).mono ?_; rintro e w3 ⟨rfl, hw⟩
    rw [hw]; clear hw w3
    have HW2d := hid HW2.out.drew
    have cv0 := owns_string HO2.out
    have cv1 : (convert 40 9 (.slice q Bd.length d)).run Tryd.prog w2.drew = .ok (.string ⟨Bd.toArray⟩) w2.drew := owns_string (W := w2.drew) (B := w1.heap.size) HO2.out
    go_wp2_with fail
    go_region_law (first
      | (go_simp; go_at_call 38; refine (HT.out _).mono ?_; rintro e w4 ⟨rfl, hh⟩; have cv2 := owns_string (owns_below (W := w2.drew) HO2.out hh.out); have HW4 := hid (HW2d.out.trans (hh.out.mono HW2d.out.size)); clear hh))
    all_goals go_wp2_with fail
    all_goals go_ret2
    all_goals exact ⟨rfl, HW4.out⟩
  · have h' : rightB m = false := by simpa using h
    rw [show dumpS m = [] from if_neg h]
    rw [h'] at HR ⊢
    clear h h' hS hV
    go_enter Tryd.func18, Tryd.ntmps18
    go_wp2_with fail
    refine (HR.out _ (HVI.out.below HB.out)).mono ?_; rintro e w1 ⟨rfl, hh⟩
    have HW1 := hid (HB.out.trans (hh.out.mono HB.out.size))
    clear hh
    go_wp2_with fail
    go_ret2
    exact ⟨rfl, HW1.out⟩

end Go.Proofs.YtmjmdfenkhmfbaaDoor
