/- What the rows list of the package-level variables gives the calls what they read; and one world that has it all. -/
import Derived.Test.YtjcegiponjpjiabDoorAlive
import Derived.Test.YtjcegiponjpjiabDoorRows
import Derived.Lib.LaidU8T
import Derived.Lib.LaidTab
import Derived.Stop.LaidErr
import Derived.MakeChecks
import Derived.LaidLaws
namespace Go.Proofs.YtjcegiponjpjiabDoor
open Go.RowKit

/-- the listed variables, in the rows' order: of the rows that list utf8's tables alone, and of those that list strconv's too -/
def listed : List (String × DataW Unit) := [("unicode/utf8.acceptRanges", Rows.laid_unicode_utf8_acceptRanges), ("unicode/utf8.first", Rows.laid_unicode_utf8_first)]
def listedA : List (String × DataW Unit) := [("math/bits.deBruijn32tab", Rows.laid_math_bits_deBruijn32tab), ("math/bits.deBruijn64tab", Rows.laid_math_bits_deBruijn64tab), ("internal/strconv.uint64pow10", Rows.laid_internal_strconv_uint64pow10), ("unicode/utf8.acceptRanges", Rows.laid_unicode_utf8_acceptRanges), ("unicode/utf8.first", Rows.laid_unicode_utf8_first)]
theorem accept_eq : (Rows.laid_unicode_utf8_acceptRanges : DataW Unit) = Lib.acceptData := by kernel_rfl
theorem first_eq : Rows.laid_unicode_utf8_first = Lib.firstData := by kernel_rfl
def ren : Go.Shelf.Ren := ⟨fun n => n, fun | 5 => 5 | 119 => 85 | 138 => 87 | 139 => 88 | n => n, fun | 3 => 2 | 4 => 3 | n => n⟩
theorem u8types : U8Types Tryd.prog ren := ⟨Tryd.underlying5, Tryd.underlying85, Tryd.underlying87, Tryd.underlying88⟩
theorem u8extra : U8Extra Tryd.prog ren := ⟨by kernel_rfl, by kernel_rfl, by kernel_rfl, by kernel_rfl, by kernel_rfl, by kernel_rfl, by kernel_rfl⟩
theorem envs_of {l : List (String × DataW Unit)} {W : World} (h : laidMet Tryd.prog l W) (h1 : ("unicode/utf8.acceptRanges", Lib.acceptData) ∈ l) (h2 : ("unicode/utf8.first", Lib.firstData) ∈ l) : Envs W := by
  have ht : Lib.Utf8Tabs 2 3 W := utf8Tabs_of_readsT u8types u8extra (Lib.laidMet.reads h h2) (Lib.laidMet.reads h h1)
  exact ⟨block_lt_of_cell (ht.2 0 (by decide)).1, ht⟩
theorem env_of {W : World} (hL : laidMetH Tryd.prog listed W) : Envs W := by
  have h : laidMet Tryd.prog listed W := (MakeChecks.laidMetH_plain _ _ _ (by kernel_rfl)) ▸ hL
  unfold listed at h
  rw [accept_eq, first_eq] at h
  exact envs_of h (.head _) (.tail _ (.head _))
theorem gBr : Tryd.prog.globalNamed "math/bits.deBruijn64tab" = some 5 := by kernel_rfl
theorem gBrType : (Tryd.prog.globals[5]?).map (·.type) = some 91 := by kernel_rfl
theorem gPowType : (Tryd.prog.globals[1]?).map (·.type) = some 79 := by kernel_rfl
theorem cellsBr : Tryd.prog.cellsOf 91 = 64 := by kernel_rfl
theorem cellsPow : Tryd.prog.cellsOf 79 = 20 := by kernel_rfl
theorem cells8 : Tryd.prog.cellsOf 5 = 1 := by kernel_rfl
theorem cells64 : Tryd.prog.cellsOf 63 = 1 := by kernel_rfl
def bru : List Int := [0, 1, 56, 2, 57, 49, 28, 3, 61, 58, 42, 50, 38, 29, 17, 4, 62, 47, 59, 36, 45, 43, 51, 22, 53, 39, 33, 30, 24, 18, 12, 5, 63, 55, 48, 27, 60, 41, 37, 16, 46, 35, 44, 21, 52, 32, 23, 11, 54, 26, 40, 15, 34, 20, 31, 10, 25, 14, 19, 9, 13, 8, 7, 6]
/-- all that the calls read -/
theorem both_of {W : World} (hL : laidMetH Tryd.prog listedA W) : Env W ∧ Envs W := by
  have h : laidMet Tryd.prog listedA W := (MakeChecks.laidMetH_plain _ _ _ (by kernel_rfl)) ▸ hL
  have t2 : Lib.TabIs Tryd.prog W "math/bits.deBruijn64tab" .u8 bru := Lib.tabIs_of_head gBr gBrType Tryd.underlying91 Tryd.underlying5 cells8 cellsBr h.tail
  have t3 : Lib.TabIs Tryd.prog W "internal/strconv.uint64pow10" .u64 Lib.pow10Tab := Lib.tabIs_of_head gPow gPowType Tryd.underlying79 Tryd.underlying63 cells64 cellsPow h.tail.tail
  have hr := block_lt_of_cell (t2.cell gBr 0 (by decide))
  unfold listedA at h
  rw [accept_eq, first_eq] at h
  exact ⟨⟨hr, t3⟩, envs_of h (.tail _ (.tail _ (.tail _ (.head _)))) (.tail _ (.tail _ (.tail _ (.tail _ (.head _)))))⟩
def bru32 : List Int := [0, 1, 28, 2, 29, 14, 24, 3, 30, 22, 20, 15, 25, 17, 4, 8, 31, 27, 13, 23, 21, 19, 16, 7, 26, 12, 18, 6, 11, 5, 10, 9]
def fillOf (cs : Array Value) : Obj → Obj
  | .cells _ t frozen => .cells cs t frozen
  | o => o
def accCells : List Value := (List.range 16).flatMap fun i => [.int .u8 (Lib.accLo i : Int), .int .u8 (Lib.accHi i : Int)]
/-- a world for the witness: the settled one, each listed variable holding what its initialiser lays -/
def laidWorld (P : Program) (os : Os) : World :=
  { World.holding P os ⟨#[], #[], []⟩ with
    heap := (((((World.holding P os ⟨#[], #[], []⟩).heap.modify 2 (fillOf (Lib.firstTab.map (Value.int .u8)).toArray)).modify 3 (fillOf accCells.toArray)).modify 1 (fillOf (Lib.pow10Tab.map (Value.int .u64)).toArray)).modify 4 (fillOf (bru32.map (Value.int .u8)).toArray)).modify 5 (fillOf (bru.map (Value.int .u8)).toArray) }
theorem laid_met (os : Os) (args : Array Value) : laidMet Tryd.prog listed ((laidWorld Tryd.prog os).forCall (fun _ _ => 0) ⟨#[], args, []⟩).memory :=
  laidMet_of_run' 8 (by kernel_rfl) (by kernel_rfl)
theorem laid_metA (os : Os) (args : Array Value) : laidMet Tryd.prog listedA ((laidWorld Tryd.prog os).forCall (fun _ _ => 0) ⟨#[], args, []⟩).memory :=
  laidMet_of_run' 8 (by kernel_rfl) (by kernel_rfl)

end Go.Proofs.YtjcegiponjpjiabDoor
