/- The program's deque: all that its methods do. -/
import Derived.Test.YtmlnjcmkengkhaaDeqPush
import Derived.Test.YtmlnjcmkengkhaaDeqTrim
import Derived.Test.YtmlnjcmkengkhaaDeqAt
import Derived.Test.YtmlnjcmkengkhaaDeqRange
namespace Go.Proofs.Ytmlnjcmkengkhaa
open Go.RowKit

theorem meth : Meth Dq where
  turn := dq_turn
  lt := dq_lt
  len := dq_len
  new := fun w => (new_any w).mono fun _ _ ⟨he, hw⟩ => ⟨w.heap.size, he, by subst hw; exact ⟨Nat.le_refl _, zeros_dq w, below_alloc w _⟩⟩
  push := push_any
  pop := pop_any
  length := len_any
  spot := at_any
  put := put_any
  range := range_any
  trim := trim_any
  clone := clone_any

end Go.Proofs.Ytmlnjcmkengkhaa
