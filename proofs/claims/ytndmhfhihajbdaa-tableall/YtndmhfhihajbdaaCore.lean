/- Facts that are kept aside, and blocks below. -/
import Derived.Test.YtndmhfhihajbdaaProg
import Derived.WalkKit
import Derived.Below
import Derived.RowKit
namespace Go.Proofs.Ytndmhfhihajbdaa
open Go.RowKit

theorem hid {p : Prop} (h : p) : Hid p := h
theorem below_alloc (w : World) (o : Obj) : Below w.heap.size w (w.alloc o) := (Below.refl _ _).alloc (Nat.le_refl _) o

end Go.Proofs.Ytndmhfhihajbdaa
