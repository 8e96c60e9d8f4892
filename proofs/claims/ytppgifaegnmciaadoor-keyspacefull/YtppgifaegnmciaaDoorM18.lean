/- PSize. -/
import Derived.Test.YtppgifaegnmciaaDoorM15
namespace Go.Proofs.YtppgifaegnmciaaDoor
open Go.RowKit

set_option maxHeartbeats 1000000 in
set_option maxRecDepth 100000 in
/-- Size -/
theorem psize_any (m : Vl) (pp : Option Addr) (pc' : Nat) (ip : Option Addr) (ic : Nat) (w : World) (hTb : Tab w) (hC : Came m) (hV : VI w m pp pc' ip ic) :
    Calls Tryd.prog 31 #[vv m pp pc' ip ic] w fun e w' => e = .returned (.int .i64 ((dumpS m).length : Int)) ∧ Hid (Below w.heap.size w w') := by
  have HB := hid (below_alloc w (vob m pp pc' ip ic))
  obtain ⟨c0, c1, c2, c3, c4, c5⟩ := val_facts (val_new w m pp pc' ip ic)
  have H1 := hid (pdump_any m pp pc' ip ic _ (hTb.env HB.out) hC (hV.below HB.out))
  have hmx := dumpS_max m
  generalize dumpS m = D at *
  generalize rightB m = R at *
  have hz : (D.length : Int) ≤ 1000002 := by omega
  clear hTb hC hV hmx
  go_enter Tryd.func31, Tryd.ntmps31
  go_wp2_with fail
  refine H1.out.mono ?_; rintro e w1 ⟨rfl, hh⟩
  have HW1 := hid (HB.out.trans (hh.out.mono HB.out.size))
  clear hh
  go_wp2_with fail
  go_ret
  exact ⟨rfl, HW1.out⟩

end Go.Proofs.YtppgifaegnmciaaDoor
