/- The contracts that the second seat's law leans on. -/
import Derived.Test.YtpbokncojemihabPick
import Derived.Test.YtpbokncojemihabMake
namespace Go.Proofs.Ytpbokncojemihab
open Go.RowKit

theorem methB : MethB where
  make := make_any
  has := has_any
  union := fun p c a p' c' b w h1 h2 h3 h4 h5 h6 => (union_any p c a p' c' b w h1 h2 h3 h4 h5 h6).tells
  meet := fun p c a p' c' b w h1 h2 h3 h4 h5 h6 => (meet_any p c a p' c' b w h1 h2 h3 h4 h5 h6).tells
  less := fun p c a p' c' b w h1 h2 h3 h4 h5 h6 => (less_any p c a p' c' b w h1 h2 h3 h4 h5 h6).tells

end Go.Proofs.Ytpbokncojemihab
