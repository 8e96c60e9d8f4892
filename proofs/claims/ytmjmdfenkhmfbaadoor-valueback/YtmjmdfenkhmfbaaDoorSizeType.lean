/- The document's Size and Type. -/
import Derived.Test.YtmjmdfenkhmfbaaDoorDump
namespace Go.Proofs.YtmjmdfenkhmfbaaDoor
open Go.RowKit

set_option maxHeartbeats 1000000 in
set_option maxRecDepth 100000 in
/-- ref Size -/
theorem rsize_any (m : Vl) (pp : Option Addr) (pc' : Nat) (ip : Option Addr) (ic : Nat) (w : World) (hS : Short m) (hV : VI w m pp pc' ip ic) :
    Calls Tryd.prog 14 #[vv m pp pc' ip ic] w fun e w' => e = .returned (.int .i64 ((dumpS m).length : Int)) ∧ Hid (Below w.heap.size w w') := by
  have HB := hid (below_alloc w (vob m pp pc' ip ic))
  have HX := hid (val_new w m pp pc' ip ic)
  have HD := hid (fun W h => rdump_any m pp pc' ip ic W hS h)
  have HVI := hid hV
  have hmx := dumpS_max m
  obtain ⟨c0, c1, c2, c3, c4, c5⟩ := val_facts HX.out
  generalize dumpS m = D at *
  generalize rightB m = R at *
  have hz : (D.length : Int) ≤ 1000002 := by omega
  clear hS hV hmx
  go_enter Tryd.func14, Tryd.ntmps14
  go_wp2_with fail
  refine (HD.out _ (HVI.out.below HB.out)).mono ?_; rintro e w1 ⟨rfl, hh⟩
  have HW1 := hid (HB.out.trans (hh.out.mono HB.out.size))
  clear hh
  go_wp2_with fail
  go_ret
  exact ⟨rfl, HW1.out⟩
set_option maxHeartbeats 2000000 in
set_option maxRecDepth 100000 in
/-- ref Type -/
theorem rtype_any (m : Vl) (pp : Option Addr) (pc' : Nat) (ip : Option Addr) (ic : Nat) (w : World) :
    Calls Tryd.prog 16 #[vv m pp pc' ip ic] w fun e w' => e = .returned (txt (typeV m.kind)) ∧ Hid (Below w.heap.size w w') := by
  obtain ⟨k, t, ps, is, x, y⟩ := m
  have HB := hid (below_alloc w (vob ⟨k, t, ps, is, x, y⟩ pp pc' ip ic))
  have HX := hid (val_new w ⟨k, t, ps, is, x, y⟩ pp pc' ip ic)
  obtain ⟨c0, c1, c2, c3, c4, c5⟩ := val_facts HX.out
  dsimp only at *
  by_cases h1 : k < 1
  · rw [show typeV k = [110, 111, 110, 101] by unfold typeV; rw [if_neg (by omega), if_neg (by omega), if_neg (by omega), if_neg (by omega), if_neg (by omega)]]
    go_enter Tryd.func16, Tryd.ntmps16
    go_wp2_with fail
    go_ret
    exact ⟨rfl, HB.out⟩
  · by_cases h5 : 5 < k
    · rw [show typeV k = [110, 111, 110, 101] by unfold typeV; rw [if_neg (by omega), if_neg (by omega), if_neg (by omega), if_neg (by omega), if_neg (by omega)]]
      go_enter Tryd.func16, Tryd.ntmps16
      go_wp2_with fail
      go_ret
      exact ⟨rfl, HB.out⟩
    · have HB2 := hid (fun o => HB.out.trans ((below_alloc (w.alloc (vob ⟨k, t, ps, is, x, y⟩ pp pc' ip ic)) o).mono HB.out.size))
      rcases (show k = 1 ∨ k = 2 ∨ k = 3 ∨ k = 4 ∨ k = 5 by omega) with rfl | rfl | rfl | rfl | rfl
      all_goals go_enter Tryd.func16, Tryd.ntmps16
      all_goals go_wp2_with fail
      all_goals go_ret
      all_goals exact ⟨rfl, HB2.out _⟩

end Go.Proofs.YtmjmdfenkhmfbaaDoor
