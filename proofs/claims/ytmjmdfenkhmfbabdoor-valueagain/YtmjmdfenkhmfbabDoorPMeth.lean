/- What the program's calls do, as the laws ask it. -/
import Derived.Test.YtmjmdfenkhmfbabDoorVMeth
import Derived.Test.YtmjmdfenkhmfbabDoorPrg3
namespace Go.Proofs.YtmjmdfenkhmfbabDoor
open Go.RowKit

theorem meth : MethV Tab where
  env := fun h hb => h.env hb
  dump := fun m pp pc' ip ic w hT hC hV => pdump_any m pp pc' ip ic w hT hC hV
  load := fun s w hT hs => pload_any s w hT hs
  type := fun m pp pc' ip ic w _ => ptype_any m pp pc' ip ic w
  same := fun a b pp pc' ip ic pp2 pc2 ip2 ic2 w _ hC _ h1 h2 => psame_any a b pp pc' ip ic pp2 pc2 ip2 ic2 w h1 h2 hC.pairs hC.items

end Go.Proofs.YtmjmdfenkhmfbabDoor
