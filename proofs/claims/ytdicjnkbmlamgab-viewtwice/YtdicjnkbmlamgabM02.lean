/- Zero. -/
import Derived.Test.YtdicjnkbmlamgabProg
import Derived.KernelRfl
namespace Go.Proofs.Ytdicjnkbmlamgab

def Try.zeroCells24 : Array Value := Array.replicate 256 (.int .u64 0)
def Try.zeroCells29 : Array Value := #[.int .i64 0, .int .i64 0, .int .i64 0, .int .u64 0, .int .u64 0] ++ Array.replicate 256 (.int .u64 0)
def Try.zeroCells73 : Array Value := #[.int .u64 0] ++ Array.replicate 256 (.int .u64 0)
def Try.zeroCells38 : Array Value := #[.int .i64 0, .int .i64 0, .int .i64 0, .int .u64 0] ++ (#[.int .i64 0, .int .i64 0, .int .i64 0, .int .u64 0, .int .u64 0] ++ Array.replicate 256 (.int .u64 0))
@[simp] theorem Try.zeroValue24 (w : World) : (zeroValue 24).run Try.prog w = .ok (.agg Try.zeroCells24) w := by kernel_rfl
@[simp] theorem Try.zeroValue29 (w : World) : (zeroValue 29).run Try.prog w = .ok (.agg Try.zeroCells29) w := by kernel_rfl
@[simp] theorem Try.zeroValue73 (w : World) : (zeroValue 73).run Try.prog w = .ok (.agg Try.zeroCells73) w := by kernel_rfl
@[simp] theorem Try.zeroValue38 (w : World) : (zeroValue 38).run Try.prog w = .ok (.agg Try.zeroCells38) w := by kernel_rfl
@[simp] theorem Try.zeroCells24_size : Try.zeroCells24.size = 256 := by kernel_rfl
@[simp] theorem Try.zeroCells29_size : Try.zeroCells29.size = 261 := by kernel_rfl
@[simp] theorem Try.zeroCells73_size : Try.zeroCells73.size = 257 := by kernel_rfl
@[simp] theorem Try.zeroCells38_size : Try.zeroCells38.size = 265 := by kernel_rfl
theorem ne_empty {a : Array Value} {n : Nat} (h : a.size = n + 1) : a ≠ #[] := by
  intro e
  rw [e] at h
  cases h
@[simp] theorem Try.zeroCells24_ne : Try.zeroCells24 ≠ #[] := ne_empty (n := 255) Try.zeroCells24_size
@[simp] theorem Try.zeroCells29_ne : Try.zeroCells29 ≠ #[] := ne_empty (n := 260) Try.zeroCells29_size
@[simp] theorem Try.zeroCells73_ne : Try.zeroCells73 ≠ #[] := ne_empty (n := 256) Try.zeroCells73_size
@[simp] theorem Try.zeroCells38_ne : Try.zeroCells38 ≠ #[] := ne_empty (n := 264) Try.zeroCells38_size

end Go.Proofs.Ytdicjnkbmlamgab
