/- What the program's calls do, as the laws ask it. -/
import Derived.Test.YtmjmdfenkhmfbaaDoorVMeth
import Derived.Test.YtmjmdfenkhmfbaaDoorPrg3
namespace Go.Proofs.YtmjmdfenkhmfbaaDoor
open Go.RowKit

set_option maxHeartbeats 1000000 in
set_option maxRecDepth 100000 in
/-- Size -/
theorem psize_any (m : Vl) (pp : Option Addr) (pc' : Nat) (ip : Option Addr) (ic : Nat) (w : World) (hTb : Tab w) (hC : Came m) (hV : VI w m pp pc' ip ic) :
    Calls Tryd.prog 13 #[vv m pp pc' ip ic] w fun e w' => e = .returned (.int .i64 ((dumpS m).length : Int)) ∧ Hid (Below w.heap.size w w') := by
  have HB := hid (below_alloc w (vob m pp pc' ip ic))
  obtain ⟨c0, c1, c2, c3, c4, c5⟩ := val_facts (val_new w m pp pc' ip ic)
  have H1 := hid (pdump_any m pp pc' ip ic _ (hTb.env HB.out) hC (hV.below HB.out))
  have hmx := dumpS_max m
  generalize dumpS m = D at *
  generalize rightB m = R at *
  have hz : (D.length : Int) ≤ 1000002 := by omega
  clear hTb hC hV hmx
  go_enter Tryd.func13, Tryd.ntmps13
  go_wp2_with fail
  refine H1.out.mono ?_; rintro e w1 ⟨rfl, hh⟩
  have HW1 := hid (HB.out.trans (hh.out.mono HB.out.size))
  clear hh
  go_wp2_with fail
  go_ret
  exact ⟨rfl, HW1.out⟩
theorem meth : MethV Tab where
  env := fun h hb => h.env hb
  right := fun m pp pc' ip ic w _ hC hV => pright_any m pp pc' ip ic w hC hV
  dump := fun m pp pc' ip ic w hT hC hV => pdump_any m pp pc' ip ic w hT hC hV
  load := fun s w hT hs => pload_any s w hT hs
  size := fun m pp pc' ip ic w hT hC hV => psize_any m pp pc' ip ic w hT hC hV
  type := fun m pp pc' ip ic w _ => ptype_any m pp pc' ip ic w
  same := fun a b pp pc' ip ic pp2 pc2 ip2 ic2 w _ hC _ h1 h2 => psame_any a b pp pc' ip ic pp2 pc2 ip2 ic2 w h1 h2 hC.pairs hC.items

end Go.Proofs.YtmjmdfenkhmfbaaDoor
