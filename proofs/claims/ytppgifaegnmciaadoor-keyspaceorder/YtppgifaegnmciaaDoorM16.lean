/- RefRight10. -/
import Derived.WalkLawsBesides
import Derived.Test.YtppgifaegnmciaaDoorM13
namespace Go.Proofs.YtppgifaegnmciaaDoor
open Go.RowKit

/-- the rows of a value are not too long to be walked -/
structure Short (m : Vl) : Prop where
  pairs : m.pairs.length ≤ 1000000
  items : m.items.length ≤ 1000000
  text : m.text.length ≤ 140737488351232
  names : ∀ x ∈ m.pairs.map (·.1), x.length ≤ 140737488351232
  values : ∀ x ∈ m.pairs.map (·.2), x.length ≤ 140737488351232
  texts : ∀ x ∈ m.items, x.length ≤ 140737488351232
end Go.Proofs.YtppgifaegnmciaaDoor
