/- Small helps for rows. -/
import Derived.Test.YtjcfbnhmljlkpaaLkRef3
namespace Go.Proofs.Ytjcfbnhmljlkpaa
open Go.RowKit

theorem heads {r1 r2 : Rep} {l1 l2 : List Rep} (h : r1 :: l1 = r2 :: l2) : r1 = r2 ∧ l1 = l2 := by simpa using h
theorem drop_step {α : Type} {l : List α} {k : Nat} (h : k < l.length) : l.drop k = l[k] :: l.drop (k + 1) := List.drop_eq_getElem_cons h
theorem below2 (w : World) (o o' : Obj) : Below w.heap.size w ((w.alloc o).alloc o') := (below_alloc w o).alloc (by simp) o'
theorem below_redrawn {B : Nat} {a w : World} (h : Below B a w) (d : Nat) : Below B a { w with drawn := d } := ⟨h.os, h.tape, h.output, h.size, h.block⟩

end Go.Proofs.Ytjcfbnhmljlkpaa
