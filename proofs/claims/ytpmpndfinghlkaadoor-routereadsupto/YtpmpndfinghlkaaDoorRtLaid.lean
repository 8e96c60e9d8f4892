/- What the rows list of the package-level variables gives the calls what they read; and one world that has it all. -/
import Derived.Test.YtpmpndfinghlkaaDoorRtBase
import Derived.Test.YtpmpndfinghlkaaDoorRows
import Derived.Lib.LaidTab
import Derived.Lib.LaidU8T
import Derived.Stop.LaidErr
import Derived.MakeChecks
import Derived.LaidLaws
namespace Go.Proofs.YtpmpndfinghlkaaDoor
open Go.RowKit

/-- the listed variables, in the rows' order -/
def listed : List (String × DataW Unit) := [("math/bits.deBruijn32tab", Rows.laid_math_bits_deBruijn32tab), ("math/bits.deBruijn64tab", Rows.laid_math_bits_deBruijn64tab), ("internal/strconv.uint64pow10", Rows.laid_internal_strconv_uint64pow10), ("unicode/utf8.acceptRanges", Rows.laid_unicode_utf8_acceptRanges), ("strconv.ErrRange", Rows.laid_strconv_ErrRange), ("strconv.ErrSyntax", Rows.laid_strconv_ErrSyntax), ("unicode/utf8.first", Rows.laid_unicode_utf8_first)]
theorem gBr : Tryd.prog.globalNamed "math/bits.deBruijn64tab" = some 7 := by kernel_rfl
theorem gBrType : (Tryd.prog.globals[7]?).map (·.type) = some 104 := by kernel_rfl
theorem gPowType : (Tryd.prog.globals[1]?).map (·.type) = some 80 := by kernel_rfl
theorem gSynType : (Tryd.prog.globals[4]?).map (·.type) = some 55 := by kernel_rfl
theorem gRanType : (Tryd.prog.globals[5]?).map (·.type) = some 55 := by kernel_rfl
theorem cellsBr : Tryd.prog.cellsOf 104 = 64 := by kernel_rfl
theorem cellsPow : Tryd.prog.cellsOf 80 = 20 := by kernel_rfl
theorem cells8 : Tryd.prog.cellsOf 5 = 1 := by kernel_rfl
theorem cells64 : Tryd.prog.cellsOf 66 = 1 := by kernel_rfl
theorem cellsES : Tryd.prog.cellsOf 102 = 1 := by kernel_rfl
theorem cellsStr : Tryd.prog.cellsOf 9 = 1 := by kernel_rfl
theorem starES : "*" ++ "errors.errorString" = "*errors.errorString" := by decide
theorem rowES : ∀ u, Tryd.prog.typeName? 3 u = some "*errors.errorString" → u = 100 := fun u h =>
  typeName_ptr_named (nm := "errors.errorString") (by rw [starES]; kernel_rfl) (by kernel_rfl) (by decide) u (by rw [starES]; exact h)
def bru : List Int := [0, 1, 56, 2, 57, 49, 28, 3, 61, 58, 42, 50, 38, 29, 17, 4, 62, 47, 59, 36, 45, 43, 51, 22, 53, 39, 33, 30, 24, 18, 12, 5, 63, 55, 48, 27, 60, 41, 37, 16, 46, 35, 44, 21, 52, 32, 23, 11, 54, 26, 40, 15, 34, 20, 31, 10, 25, 14, 19, 9, 13, 8, 7, 6]
theorem env_of {W : World} (hL : laidMetH Tryd.prog listed W) : Env W := by
  have h : laidMet Tryd.prog listed W := (MakeChecks.laidMetH_plain _ _ _ (by kernel_rfl)) ▸ hL
  have t2 : Lib.TabIs Tryd.prog W "math/bits.deBruijn64tab" .u8 bru := Lib.tabIs_of_head gBr gBrType Tryd.underlying104 Tryd.underlying5 cells8 cellsBr h.tail
  have t3 : Lib.TabIs Tryd.prog W "internal/strconv.uint64pow10" .u64 Lib.pow10Tab := Lib.tabIs_of_head gPow gPowType Tryd.underlying80 Tryd.underlying66 cells64 cellsPow h.tail.tail
  obtain ⟨a0, s0, hv0, -, -, -⟩ := laid_sentinel h.tail.tail.tail.tail gRan gRanType Tryd.underlying55 rowES Tryd.underlying100 Tryd.underlying102 rfl rfl Tryd.underlying9 cellsES cellsStr
  obtain ⟨a1, s1, hv1, -, -, -⟩ := laid_sentinel h.tail.tail.tail.tail.tail gSyn gSynType Tryd.underlying55 rowES Tryd.underlying100 Tryd.underlying102 rfl rfl Tryd.underlying9 cellsES cellsStr
  exact ⟨block_lt_of_cell (t2.cell gBr 0 (by decide)), t3, ⟨_, _, hv1⟩, ⟨_, _, hv0⟩⟩

def synS : ByteArray := { data := #[105, 110, 118, 97, 108, 105, 100, 32, 115, 121, 110, 116, 97, 120] }
def rngS : ByteArray := { data := #[118, 97, 108, 117, 101, 32, 111, 117, 116, 32, 111, 102, 32, 114, 97, 110, 103, 101] }
def bru32 : List Int := [0, 1, 28, 2, 29, 14, 24, 3, 30, 22, 20, 15, 25, 17, 4, 8, 31, 27, 13, 23, 21, 19, 16, 7, 26, 12, 18, 6, 11, 5, 10, 9]
/-- so many blocks has the settled world -/
def low (P : Program) : Nat := (World.holding P default ⟨#[], #[], []⟩).heap.size
def fillOf (cs : Array Value) : Obj → Obj
  | .cells _ t frozen => .cells cs t frozen
  | o => o
def accCells : List Value := (List.range 16).flatMap fun i => [.int .u8 (Lib.accLo i : Int), .int .u8 (Lib.accHi i : Int)]
/-- a world for the witness: the settled one, each listed variable holding what its initialiser lays -/
def laidWorld (P : Program) (os : Os) : World :=
  { World.holding P os ⟨#[.cells #[.string synS] 102, .cells #[.string rngS] 102], #[], []⟩ with
    heap := (((((((World.holding P os ⟨#[.cells #[.string synS] 102, .cells #[.string rngS] 102], #[], []⟩).heap.modify 2 (fillOf (Lib.firstTab.map (Value.int .u8)).toArray)).modify 3 (fillOf accCells.toArray)).modify 1 (fillOf (Lib.pow10Tab.map (Value.int .u64)).toArray)).modify 4 (fillOf #[.iface 100 (.pointer (some ⟨low P, 0, none⟩))])).modify 5 (fillOf #[.iface 100 (.pointer (some ⟨low P + 1, 0, none⟩))])).modify 6 (fillOf (bru32.map (Value.int .u8)).toArray)).modify 7 (fillOf (bru.map (Value.int .u8)).toArray) }
theorem laid_met (os : Os) (args : Array Value) : laidMet Tryd.prog listed ((laidWorld Tryd.prog os).forCall (fun _ _ => 0) ⟨#[], args, []⟩).memory :=
  laidMet_of_run' 8 (by kernel_rfl) (by kernel_rfl)

end Go.Proofs.YtpmpndfinghlkaaDoor
