/- The landed code keeps what the laws lean on. -/
import Derived.Test.YtenncfohifekhaaDoorPEnv
namespace Go.Proofs.YtenncfohifekhaaDoor
open Go.RowKit

/-- whatever is known of the package variables, if Print's tables are among it -/
theorem meth_of {V : World → Prop} (hk : ∀ {w w' : World}, V w → Below w.heap.size w w' → V w') (hp : ∀ {w : World}, V w → Env w) : MethP V where
  env := hk
  right x y w _ := pright_any x y w
  add a b c d w _ := padd_any a b c d w
  times a b c d w _ := ptimes_any a b c d w
  turn x y n w _ _ _ := pturn_any x y n w
  norm x y w _ := pnorm_any x y w
  print x y w h := pprint_any x y w (hp h)
theorem meth : MethP Env := meth_of (fun h hb => h.below hb) (fun h => h)

end Go.Proofs.YtenncfohifekhaaDoor
