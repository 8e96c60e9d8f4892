/- Zero. -/
import Derived.Test.YtdicjnkbmlamgaaProg
import Derived.KernelRfl
namespace Go.Proofs.Ytdicjnkbmlamgaa

def Try.zeroCells24 : Array Value := Array.replicate 256 (.int .u64 0)
def Try.zeroCells44 : Array Value := #[.int .i64 0, .int .i64 0, .int .i64 0, .int .u64 0, .int .u64 0] ++ Array.replicate 256 (.int .u64 0)
def Try.zeroCells58 : Array Value := #[.int .u64 0] ++ Array.replicate 256 (.int .u64 0)
def Try.zeroCells46 : Array Value := #[.int .i64 0, .int .i64 0, .int .i64 0, .int .u64 0] ++ (#[.int .i64 0, .int .i64 0, .int .i64 0, .int .u64 0, .int .u64 0] ++ Array.replicate 256 (.int .u64 0))
@[simp] theorem Try.zeroValue24 (w : World) : (zeroValue 24).run Try.prog w = .ok (.agg Try.zeroCells24) w := by kernel_rfl
@[simp] theorem Try.zeroValue44 (w : World) : (zeroValue 44).run Try.prog w = .ok (.agg Try.zeroCells44) w := by kernel_rfl
@[simp] theorem Try.zeroValue58 (w : World) : (zeroValue 58).run Try.prog w = .ok (.agg Try.zeroCells58) w := by kernel_rfl
@[simp] theorem Try.zeroValue46 (w : World) : (zeroValue 46).run Try.prog w = .ok (.agg Try.zeroCells46) w := by kernel_rfl
@[simp] theorem Try.zeroCells24_size : Try.zeroCells24.size = 256 := by kernel_rfl
@[simp] theorem Try.zeroCells44_size : Try.zeroCells44.size = 261 := by kernel_rfl
@[simp] theorem Try.zeroCells58_size : Try.zeroCells58.size = 257 := by kernel_rfl
@[simp] theorem Try.zeroCells46_size : Try.zeroCells46.size = 265 := by kernel_rfl
theorem ne_empty {a : Array Value} {n : Nat} (h : a.size = n + 1) : a ≠ #[] := by
  intro e
  rw [e] at h
  cases h
@[simp] theorem Try.zeroCells24_ne : Try.zeroCells24 ≠ #[] := ne_empty (n := 255) Try.zeroCells24_size
@[simp] theorem Try.zeroCells44_ne : Try.zeroCells44 ≠ #[] := ne_empty (n := 260) Try.zeroCells44_size
@[simp] theorem Try.zeroCells58_ne : Try.zeroCells58 ≠ #[] := ne_empty (n := 256) Try.zeroCells58_size
@[simp] theorem Try.zeroCells46_ne : Try.zeroCells46 ≠ #[] := ne_empty (n := 264) Try.zeroCells46_size

end Go.Proofs.Ytdicjnkbmlamgaa
