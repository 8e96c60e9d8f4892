/- What the rows list of the package-level variables gives the calls what they read; and one world that has it all. -/
import Derived.Test.YtenncfohifekhabDoorPMeth
import Derived.Test.YtenncfohifekhabDoorRows
import Derived.Lib.LaidTab
import Derived.MakeChecks
import Derived.LaidLaws
import Derived.Stop.LaidErr
namespace Go.Proofs.YtenncfohifekhabDoor
open Go.RowKit

/-- the listed variables, in the rows' order -/
def listed : List (String × DataW Unit) := [("math/bits.deBruijn32tab", Rows.laid_math_bits_deBruijn32tab), ("math/bits.deBruijn64tab", Rows.laid_math_bits_deBruijn64tab), ("internal/strconv.uint64pow10", Rows.laid_internal_strconv_uint64pow10)]
theorem gBr : Tryd.prog.globalNamed "math/bits.deBruijn64tab" = some 2 := by kernel_rfl
theorem gBrType : (Tryd.prog.globals[2]?).map (·.type) = some 59 := by kernel_rfl
theorem gPowType : (Tryd.prog.globals[0]?).map (·.type) = some 52 := by kernel_rfl
theorem cellsBr : Tryd.prog.cellsOf 59 = 64 := by kernel_rfl
theorem cellsPow : Tryd.prog.cellsOf 52 = 20 := by kernel_rfl
theorem cells8 : Tryd.prog.cellsOf 5 = 1 := by kernel_rfl
theorem cells64 : Tryd.prog.cellsOf 44 = 1 := by kernel_rfl
def bru : List Int := [0, 1, 56, 2, 57, 49, 28, 3, 61, 58, 42, 50, 38, 29, 17, 4, 62, 47, 59, 36, 45, 43, 51, 22, 53, 39, 33, 30, 24, 18, 12, 5, 63, 55, 48, 27, 60, 41, 37, 16, 46, 35, 44, 21, 52, 32, 23, 11, 54, 26, 40, 15, 34, 20, 31, 10, 25, 14, 19, 9, 13, 8, 7, 6]
theorem env_of {W : World} (hL : laidMetH Tryd.prog listed W) : Env W := by
  have h : laidMet Tryd.prog listed W := (MakeChecks.laidMetH_plain _ _ _ (by kernel_rfl)) ▸ hL
  have t2 : Lib.TabIs Tryd.prog W "math/bits.deBruijn64tab" .u8 bru := Lib.tabIs_of_head gBr gBrType Tryd.underlying59 Tryd.underlying5 cells8 cellsBr h.tail
  have t3 : Lib.TabIs Tryd.prog W "internal/strconv.uint64pow10" .u64 Lib.pow10Tab := Lib.tabIs_of_head gPow gPowType Tryd.underlying52 Tryd.underlying44 cells64 cellsPow h.tail.tail
  exact ⟨block_lt_of_cell (t2.cell gBr 0 (by decide)), t3⟩
def bru32 : List Int := [0, 1, 28, 2, 29, 14, 24, 3, 30, 22, 20, 15, 25, 17, 4, 8, 31, 27, 13, 23, 21, 19, 16, 7, 26, 12, 18, 6, 11, 5, 10, 9]
def fillOf (cs : Array Value) : Obj → Obj
  | .cells _ t frozen => .cells cs t frozen
  | o => o
/-- a world for the witness: the settled one, each listed variable holding what its initialiser lays -/
def laidWorld (P : Program) (os : Os) : World :=
  { World.holding P os ⟨#[], #[], []⟩ with
    heap := (((World.holding P os ⟨#[], #[], []⟩).heap.modify 0 (fillOf (Lib.pow10Tab.map (Value.int .u64)).toArray)).modify 1 (fillOf (bru32.map (Value.int .u8)).toArray)).modify 2 (fillOf (bru.map (Value.int .u8)).toArray) }
theorem laid_met (os : Os) (args : Array Value) : laidMet Tryd.prog listed ((laidWorld Tryd.prog os).forCall (fun _ _ => 0) ⟨#[], args, []⟩).memory :=
  laidMet_of_run' 8 (by kernel_rfl) (by kernel_rfl)

end Go.Proofs.YtenncfohifekhabDoor
