/- Crc, Keys, Has, ArrEq. -/
import Derived.Test.YtbfllifgmlkndaaGreatDoorProg
import Derived.WalkKit
import Derived.WalkSpells
import Derived.WalkLawsBesides
import Derived.Test.YtbfllifgmlkndaaGreatDoorM02
import Derived.Test.YtbfllifgmlkndaaGreatDoorM03
import Derived.Lib.SlBytesConst
import Derived.Deep.Draws
namespace Go.Proofs.YtbfllifgmlkndaaGreatDoor
open Go.RowKit
open Crc


/-- the table lies in memory -/
def Tab (w : World) : Prop := ∀ i, i < 16 → w.cell? ⟨0, i, none⟩ = some (.int .u16 ((tabL.getD i 0#16).toNat : Int))

set_option maxHeartbeats 400000 in
theorem half_core (c h t : Int) (w : World) (hc : 0 ≤ c) (hc' : c ≤ 65535) (hi : 0 ≤ bits BinOp.xor IntKind.u8 (c / 4096) h) (hi' : bits BinOp.xor IntKind.u8 (c / 4096) h < 16)
    (hcell : w.cell? ⟨0, (bits BinOp.xor IntKind.u8 (c / 4096) h).toNat, none⟩ = some (.int .u16 t)) :
    Calls Tryz.prog 96 #[.int .u16 c, .int .u8 h] w fun e w' => e = .returned (.int .u16 (bits BinOp.xor IntKind.u16 (IntKind.u16.wrap (c * 16)) t)) ∧ w' = w := by
  go_enter Tryz.func96, Tryz.ntmps96
  go_wp2
  go_ret
  exact ⟨rfl, rfl⟩

theorem xor16 (a b : BitVec 16) : bits BinOp.xor IntKind.u16 (a.toNat : Int) (b.toNat : Int) = ((a ^^^ b).toNat : Int) := by
  rw [u16_xor_nat _ _ a.isLt b.isLt, BitVec.toNat_xor]
theorem top4 (c : BitVec 16) : ((c.toNat : Int) / 4096) = ((c.extractLsb' 12 4).toNat : Int) := by
  have := c.isLt
  rw [BitVec.extractLsb'_toNat, Nat.shiftRight_eq_div_pow]
  omega
theorem shl4 (c : BitVec 16) : IntKind.u16.wrap ((c.toNat : Int) * 16) = ((c <<< 4).toNat : Int) := by
  rw [IntKind.wrap_u16, BitVec.toNat_shiftLeft, Nat.shiftLeft_eq]
  omega
theorem idx4 (c : BitVec 16) (h : BitVec 4) : bits BinOp.xor IntKind.u8 ((c.toNat : Int) / 4096) (h.toNat : Int) = ((c.extractLsb' 12 4 ^^^ h).toNat : Int) := by
  have h1 := (c.extractLsb' 12 4).isLt
  have h2 := h.isLt
  rw [top4, u8_xor_nat _ _ (by omega) (by omega), BitVec.toNat_xor]

theorem half_any (c : BitVec 16) (h : BitVec 4) (w : World) (ht : Tab w) :
    Calls Tryz.prog 96 #[.int .u16 (c.toNat : Int), .int .u8 (h.toNat : Int)] w fun e w' => e = .returned (.int .u16 ((halfB c h).toNat : Int)) ∧ w' = w := by
  have h1 := c.isLt
  have h2 := h.isLt
  have h3 := (c.extractLsb' 12 4 ^^^ h).isLt
  have hx := idx4 c h
  refine (half_core (c.toNat : Int) (h.toNat : Int) ((tabB (c.extractLsb' 12 4 ^^^ h)).toNat : Int) w (by omega) (by omega) (by omega) (by omega) ?_).mono ?_
  · rw [hx, Int.toNat_natCast]
    exact ht _ h3
  · rintro e w' ⟨rfl, rfl⟩
    refine ⟨?_, rfl⟩
    rw [shl4, xor16]
    rfl

/-- a slice's bytes, read from memory; whatever the address of an empty one -/
def Row (w : World) (a : Option Addr) (l : List (BitVec 8)) : Prop :=
  l.length ≤ 9223372036854775807 ∧ (l ≠ [] → ∃ b off, a = some ⟨b, off, none⟩ ∧ ∀ j, j < l.length → w.cell? ⟨b, off + j, none⟩ = some (.int .u8 ((l.getD j 0#8).toNat : Int)))

theorem hi4 (x : BitVec 8) : ((x.toNat : Int) / 16) = ((x.extractLsb' 4 4).toNat : Int) := by
  have := x.isLt
  rw [BitVec.extractLsb'_toNat, Nat.shiftRight_eq_div_pow]
  omega
theorem lo4 (x : BitVec 8) : bits BinOp.and IntKind.u8 (x.toNat : Int) 15 = ((x.extractLsb' 0 4).toNat : Int) := by
  have := x.isLt
  have e : bits BinOp.and IntKind.u8 (x.toNat : Int) 15 = (x.toNat : Int) % 16 := bits_mask .u8 8 (by decide) wraps_u8 4 (by decide) _ (by omega) (by omega)
  rw [BitVec.extractLsb'_toNat, e]
  simp
theorem take_snoc (l : List (BitVec 8)) (k : Nat) (h : k < l.length) : l.take (k + 1) = l.take k ++ [l.getD k 0#8] := by
  rw [List.take_succ_eq_append_getElem h]
  simp [List.getD, h]
theorem more_snoc (c : BitVec 16) (l : List (BitVec 8)) (k : Nat) (h : k < l.length) : more c (l.take (k + 1)) = Crc.step (more c (l.take k)) (l.getD k 0#8) := by
  rw [take_snoc l k h, more_append]
  rfl

set_option maxHeartbeats 400000 in
theorem more_some (c : BitVec 16) (b off cap : Nat) (l : List (BitVec 8)) (w : World) (ht : Tab w) (hl : l.length ≤ 9223372036854775807)
    (hc : ∀ j, j < l.length → w.cell? ⟨b, off + j, none⟩ = some (.int .u8 ((l.getD j 0#8).toNat : Int))) :
    Calls Tryz.prog 81 #[.int .u16 (c.toNat : Int), .slice (some ⟨b, off, none⟩) l.length cap] w fun e w' => e = .returned (.int .u16 ((more c l).toNat : Int)) ∧ w' = w := by
  have HT := hid ht
  have HC := hid hc
  clear ht hc
  go_enter Tryz.func81, Tryz.ntmps81
  go_wp2
  go_loop [0, 9] (fun d i => ∃ k : Nat, k ≤ l.length ∧ i = .int .i64 k ∧ d = .int .u16 ((more c (l.take k)).toNat : Int)) (fun _ i => l.length - (intOf i).toNat)
  case atStart => exact ⟨0, Nat.zero_le _, rfl, rfl⟩
  case round =>
    obtain ⟨k, hk, rfl, rfl⟩ := hrel
    by_cases hlt : k < l.length
    · have hcell := HC.out k hlt
      have HS := hid (more_snoc c l k hlt)
      generalize hD : more c (l.take k) = D at HS ⊢
      generalize hX : l.getD k 0#8 = X at HS hcell
      have HX := hid (code_step D X)
      have h4 := hi4 X
      have h0 := lo4 X
      have hb := X.isLt
      generalize X.extractLsb' 4 4 = H4 at HX h4
      generalize X.extractLsb' 0 4 = H0 at HX h0
      generalize (X.toNat : Int) = x at hcell h4 h0
      clear hD hX hb
      go_wp2_with (go_at_call 96; refine (half_any _ _ _ HT.out).mono ?_; rintro e w' ⟨rfl, rfl⟩)
      go_round
      case rel => exact ⟨k + 1, by omega, by go_num, by rw [HS.out, HX.out]⟩
      case measure => simp [intOf]; omega
    · go_wp2
      go_ret
      exact ⟨ret_int (by rw [List.take_of_length_le (by omega)]), rfl⟩

theorem more_none (c : BitVec 16) (a : Option Addr) (cap : Nat) (w : World) :
    Calls Tryz.prog 81 #[.int .u16 (c.toNat : Int), .slice a 0 cap] w fun e w' => e = .returned (.int .u16 (c.toNat : Int)) ∧ w' = w := by
  go_enter Tryz.func81, Tryz.ntmps81
  go_wp2
  refine wp_loop_rounds 1 ?_
  rw [rounds_succ]
  go_wp2
  go_ret
  exact ⟨rfl, rfl⟩
/-- More, of whatever bytes -/
theorem more_any (c : BitVec 16) (a : Option Addr) (cap : Nat) (l : List (BitVec 8)) (w : World) (ht : Tab w) (hr : Row w a l) :
    Calls Tryz.prog 81 #[.int .u16 (c.toNat : Int), .slice a l.length cap] w fun e w' => e = .returned (.int .u16 ((more c l).toNat : Int)) ∧ w' = w := by
  by_cases h : l = []
  · subst h
    exact more_none c a cap w
  · obtain ⟨b, off, rfl, hc⟩ := hr.2 h
    exact more_some c b off cap l w ht hr.1 hc
/-- Sum, of whatever bytes -/
theorem sum_any (a : Option Addr) (cap : Nat) (l : List (BitVec 8)) (w : World) (ht : Tab w) (hr : Row w a l) :
    Calls Tryz.prog 66 #[.slice a l.length cap] w fun e w' => e = .returned (.int .u16 ((more 0#16 l).toNat : Int)) ∧ w' = w := by
  have HT := hid ht
  have HR := hid hr
  clear ht hr
  go_enter Tryz.func66, Tryz.ntmps66
  go_wp2_with (go_at_call 81; refine (more_any 0#16 _ _ l _ HT.out HR.out).mono ?_; rintro e w' ⟨rfl, rfl⟩)
  go_ret
  exact ⟨rfl, rfl⟩

end Go.Proofs.YtbfllifgmlkndaaGreatDoor

namespace Go.Proofs.YtbfllifgmlkndaaGreatDoor
open Go.RowKit
open Slot

/-- what the calls read of the package-level variables -/
structure Env (w : World) : Prop where
  room : 7 ≤ w.heap.size
  tab : Tab w
  pow : Lib.TabIs Tryz.prog w "internal/strconv.uint64pow10" .u64 Lib.pow10Tab
  syn : ∃ tp p, w.var? Tryz.prog "strconv.ErrSyntax" = some #[.iface tp p]
  ran : ∃ tp p, w.var? Tryz.prog "strconv.ErrRange" = some #[.iface tp p]
theorem gPow : Tryz.prog.globalNamed "internal/strconv.uint64pow10" = some 2 := by kernel_rfl
theorem gSyn : Tryz.prog.globalNamed "strconv.ErrSyntax" = some 3 := by kernel_rfl
theorem gRan : Tryz.prog.globalNamed "strconv.ErrRange" = some 4 := by kernel_rfl
theorem Env.keep {w w' : World} (h : Env w) (hs : w.heap.size ≤ w'.heap.size) (hb : ∀ k, k < 7 → w'.heap[k]? = w.heap[k]?) : Env w' := by
  refine ⟨Nat.le_trans h.room hs, fun i hi => ?_, ?_, ?_, ?_⟩
  · rw [World.cell?_of_block (w := w) (hb 0 (by decide))]; exact h.tab i hi
  · have := h.pow
    unfold Lib.TabIs World.var? at this ⊢
    rw [gPow] at this ⊢
    simp only [Option.bind_some] at this ⊢
    rw [hb 2 (by decide)]; exact this
  · have := h.syn
    unfold World.var? at this ⊢
    rw [gSyn] at this ⊢
    simp only [Option.bind_some] at this ⊢
    rw [hb 3 (by decide)]; exact this
  · have := h.ran
    unfold World.var? at this ⊢
    rw [gRan] at this ⊢
    simp only [Option.bind_some] at this ⊢
    rw [hb 4 (by decide)]; exact this
theorem Env.below {w w' : World} {n : Nat} (h : Env w) (hb : Below n w w') (hn : 7 ≤ n) : Env w' := h.keep hb.size fun k hk => hb.block k (by omega)
theorem Env.only {w w' : World} {b : Nat} (h : Env w) (hb : Only b w w') (hn : 7 ≤ b) : Env w' := h.keep hb.size fun k hk => hb.block k (by have := h.room; omega) (by omega)
theorem Env.drewN {w : World} (h : Env w) (n : Nat) : Env (w.drewN n) := h.keep (Nat.le_refl _) fun _ _ => rfl
theorem Below.drewN {B : Nat} {a w : World} (h : Below B a w) (n : Nat) : Below B a (w.drewN n) := ⟨h.os, h.tape, h.output, h.size, h.block⟩

theorem index_one (l : List UInt8) (c : UInt8) : Lib.indexByte l c = Lib.index l [c] := (Lib.index_one l c).symm
set_option maxHeartbeats 1000000 in
theorem cut_inner (l : List UInt8) (c : UInt8) (w : World) (hl : l.length ≤ 9223372036854775807) :
    Calls Tryz.prog 103 #[.string ⟨l.toArray⟩, .string ⟨#[c]⟩] w fun e w' => e = .returned (.tuple #[.string ⟨(cut c l).1.toArray⟩, .string ⟨(cut c l).2.1.toArray⟩, .bool (cut c l).2.2]) ∧ ∃ n, w' = w.drewN n := by
  have HI := hid (Tryz.stringslite_Index_one ⟨l.toArray⟩ c)
  rw [← cut_lib c l]
  rcases Lib.indexB_cases ⟨l.toArray⟩ ⟨#[c]⟩ with hix | ⟨i, hix, hroom⟩
  · obtain ⟨e1, e2, e3⟩ := Lib.cutB_miss ⟨l.toArray⟩ ⟨#[c]⟩ hix
    simp only at e1 e2 e3
    rw [e1, e2, e3]
    have HX : Hid (Lib.indexByte l c = -1) := (index_one l c).trans hix
    clear hix
    go_enter Tryz.func103, Tryz.ntmps103
    go_wp2_with (go_at_call 110; refine (HI.out _).mono ?_; rintro e w' ⟨rfl, rfl⟩; rw [HX.out])
    go_ret3
    exact ⟨rfl, 0, rfl⟩
  · obtain ⟨e1, e2, e3⟩ := Lib.cutB_hit ⟨l.toArray⟩ ⟨#[c]⟩ i hix
    simp only at e1 e2 e3
    rw [e1, e2, e3]
    have HX : Hid (Lib.indexByte l c = i) := (index_one l c).trans hix
    have c0 : i < l.length := by have := hroom; simp [ByteArray.size] at this; omega
    clear hix hroom
    go_enter Tryz.func103, Tryz.ntmps103
    go_wp2_with (go_at_call 110; refine (HI.out _).mono ?_; rintro e w' ⟨rfl, rfl⟩; rw [HX.out])
    go_quiet ((fail))
    go_wp2
    go_ret3
    exact ⟨rfl, _, rfl⟩
/-- strings.Cut, of one byte -/
theorem cut_any (l : List UInt8) (c : UInt8) (w : World) (hl : l.length ≤ 9223372036854775807) :
    Calls Tryz.prog 97 #[.string ⟨l.toArray⟩, .string ⟨#[c]⟩] w fun e w' => e = .returned (.tuple #[.string ⟨(cut c l).1.toArray⟩, .string ⟨(cut c l).2.1.toArray⟩, .bool (cut c l).2.2]) ∧ ∃ n, w' = w.drewN n := by
  go_enter Tryz.func97, Tryz.ntmps97
  go_wp2_with (go_at_call 103; refine (cut_inner _ _ _ hl).mono ?_; rintro e w' ⟨rfl, n, rfl⟩)
  go_ret3
  exact ⟨rfl, n, rfl⟩
theorem ret_str {a b : List UInt8} (h : a = b) : Ending.returned (.string ⟨a.toArray⟩) = .returned (.string ⟨b.toArray⟩) := by rw [h]
theorem cut_short (c : UInt8) (l : List UInt8) : (cut c l).1.length ≤ l.length ∧ (cut c l).2.1.length ≤ l.length := by
  rcases cut_cases c l with ⟨p, r, rfl, h⟩ | h
  · rw [cut_hit h]; simp; omega
  · rw [cut_miss h]; simp

theorem bytesWorld_below (w : World) (e : TypeId) (s : ByteArray) : Below w.heap.size w (Lib.bytesWorld w e s) :=
  ⟨rfl, rfl, rfl, by rw [Lib.bytesWorld_size]; omega, fun k hk => Lib.bytesWorld_at_old w e s k hk⟩
theorem bytesWorld_row (w : World) (e : TypeId) (l : List UInt8) (hl : l.length ≤ 9223372036854775807) : Row (Lib.bytesWorld w e ⟨l.toArray⟩) (some ⟨w.heap.size, 0, none⟩) (l.map UInt8.toBitVec) := by
  refine ⟨by simpa using hl, fun _ => ⟨_, _, rfl, fun j hj => ?_⟩⟩
  have hj' : j < l.length := by simpa using hj
  rw [Nat.zero_add, Lib.bytesWorld_cell w e ⟨l.toArray⟩ j (by simpa [ByteArray.size] using hj')]
  simp [List.getD, hj']
theorem Tab.below {w w' : World} {n : Nat} (h : Tab w) (hb : Below n w w') (hn : 0 < n) : Tab w' := fun i hi => by
  rw [hb.cell (p := ⟨0, i, none⟩) hn]
  exact h i hi
theorem sum_of (l : List UInt8) (c : Nat) (w : World) (ht : Tab w) (hr : 7 ≤ w.heap.size) (hl : l.length ≤ 9223372036854775807) :
    Calls Tryz.prog 66 #[.slice (some ⟨w.heap.size, 0, none⟩) l.length c] (Lib.bytesWorld w 5 ⟨l.toArray⟩) fun e w' => e = .returned (.int .u16 ((Crc.more 0#16 (l.map UInt8.toBitVec)).toNat : Int)) ∧ w' = Lib.bytesWorld w 5 ⟨l.toArray⟩ := by
  have := sum_any (some ⟨w.heap.size, 0, none⟩) c (l.map UInt8.toBitVec) (Lib.bytesWorld w 5 ⟨l.toArray⟩) (ht.below (bytesWorld_below w _ _) (by omega)) (bytesWorld_row w _ l hl)
  rw [List.length_map] at this
  exact this
end Go.Proofs.YtbfllifgmlkndaaGreatDoor

namespace Go.Proofs.YtbfllifgmlkndaaGreatDoor
open Go.RowKit
open Slot

theorem box_new (w : World) (S : Nat → Bool) : Box (w.alloc (.cells (cellsOf S) 24)) w.heap.size S := heap_alloc_new w _
theorem below_alloc (w : World) (o : Obj) : Below w.heap.size w (w.alloc o) := (Below.refl _ w).alloc (Nat.le_refl _) o

theorem infoBits (T : Nat → Bool) : (Tryz.prog.info? 24).map (·.size) = some (cellsOf T).size := by
  rw [cellsOf_size]; kernel_rfl
theorem zeroRep : Tryz.zeroCells24 = Array.replicate 256 (.int .u64 0) := by kernel_rfl
theorem zeroBits : Tryz.zeroCells24 = cellsOf (fun _ => false) := by
  apply Array.ext
  · rw [cellsOf_size]; kernel_rfl
  · intro i h1 h2
    have hi : i < 256 := by rw [cellsOf_size] at h2; exact h2
    have h := cellsOf_get (fun _ => false) i hi
    rw [word_none, Array.getElem?_eq_getElem h2] at h
    rw [Option.some.inj h]
    have := congrArg (fun c : Array Value => c[i]?) zeroRep
    rw [Array.getElem?_eq_getElem h1, Array.getElem?_replicate, if_pos hi] at this
    exact Option.some.inj this
theorem oneCells (T : Nat → Bool) : (cellsOf T).all (·.oneCell') = true := by
  rw [Array.all_eq_true]
  intro i hi
  simp [cellsOf, Value.oneCell']
theorem box_size {w : World} {b : Nat} {C : Array Value} {T : Nat → Bool} (h : w.heap[b]? = some (.cells C 24 (0, 0))) : Box (w.setRow b (cellsOf T)) b T := setRow_heap w b C _ _ _ h
theorem below_setRow {B : Nat} {a w : World} (h : Below B a w) {g : Nat} (hg : B ≤ g) (cs : Array Value) : Below B a (w.setRow g cs) :=
  h.trans ⟨rfl, rfl, rfl, by simp, fun k hk => setRow_other w g k cs (by omega)⟩
/-- a set that is told lies in its own block -/
theorem ret_box {fn : Func} {p : Tmp} (h : fn.results = #[.cell p 24]) {tmps : Array Value} {w : World} {b : Nat} {S : Nat → Bool} (hp : tmps.getD p undef = .pointer (some ⟨b, 0, none⟩)) (hB : Box w b S) :
    (results fn tmps).run Tryz.prog w = .ok (.agg (cellsOf S)) w :=
  results_cell_row h tmps w b 24 (cellsOf S) (0, 0) _ hp hB Tryz.underlying24 rfl (infoBits S)

theorem bit_one (x k : Nat) (hx : x < 18446744073709551616) : bits BinOp.and IntKind.u64 ((x : Int) / 2 ^ k) 1 = if x.testBit k then 1 else 0 := by
  have h : x / 2 ^ k < 18446744073709551616 := Nat.lt_of_le_of_lt (Nat.div_le_self _ _) hx
  have e : ((x : Int) / 2 ^ k) = ((x / 2 ^ k : Nat) : Int) := by simp
  rw [e, show (1 : Int) = ((1 : Nat) : Int) from rfl, u64_and_nat _ _ h (by decide), bit_and]
  cases x.testBit k <;> rfl
end Go.Proofs.YtbfllifgmlkndaaGreatDoor

namespace Go.Proofs.YtbfllifgmlkndaaGreatDoor
open Go.RowKit
open Slot

/-- are two sets the same? -/
def sameB (S T : Nat → Bool) : Bool := (List.range' 0 256).all fun i => word S i == word T i
theorem sameB_iff (S T : Nat → Bool) : sameB S T = true ↔ ∀ n, n < top → S n = T n := by
  unfold sameB
  rw [List.all_eq_true]
  constructor
  · intro h
    exact word_inj fun i hi => by simpa using h i (by simp; omega)
  · intro h i hi
    have hi' : i < 256 := by simp at hi; omega
    simp only [beq_iff_eq]
    exact word_congr fun k _ => h _ (by unfold top; omega)
theorem eq_loop (S T : Nat → Bool) (w : World) : ∀ L : List Nat, (∀ i ∈ L, i < 256) →
    Sem.run Tryz.prog (forIn (m := Sem) L ((none, ()) : Option Bool × Unit) fun i __s => do
      let __do_lift ← part 22 (cellsOf S) (i * 1)
      let __do_lift_1 ← part 22 (cellsOf T) (i * 1)
      let __do_lift ← Op.equalIn 9999 22 __do_lift __do_lift_1
      if (!__do_lift) = true then pure (ForInStep.done (some false, ())) else pure (ForInStep.yield (none, ()))) w
    = .ok (if L.all (fun i => word S i == word T i) then (none, ()) else (some false, ())) w
  | [], _ => by simp
  | i :: L, h => by
    have u3 := Tryz.underlying22
    have a3 := Tryz.isAgg22
    have z3 := Tryz.sizeOf22
    have ih := eq_loop S T w L (fun j hj => h j (List.mem_cons_of_mem _ hj))
    have hi := h i (by simp)
    have hS := cellsOf_get S i hi
    have hT := cellsOf_get T i hi
    rw [List.forIn_cons]
    rw [Nat.mul_one]
    simp only [part, Sem.run_bind, a3, Result.andThen_ok, hS, hT, Sem.run_pure, Bool.false_eq_true, if_false]
    rw [show (9999 : Nat) = 9998 + 1 from rfl, run_equalIn_int w 9998 22 .u64 .u64 _ _ u3]
    simp only [Result.andThen_ok]
    by_cases e : word S i = word T i
    · rw [show (((word S i : Nat) : Int) == ((word T i : Nat) : Int)) = true by rw [e]; simp]
      simp only [Bool.not_true, Bool.false_eq_true, if_false, Sem.run_pure, Result.andThen_ok]
      have ee : (word S i == word T i) = true := by simp [e]
      simp only [List.all_cons, ee, Bool.true_and]
      exact ih
    · have e1 : (((word S i : Nat) : Int) == ((word T i : Nat) : Int)) = false := by rw [beq_eq_false_iff_ne]; omega
      have e2 : (word S i == word T i) = false := by rw [beq_eq_false_iff_ne]; exact e
      rw [e1]
      simp [e2]
theorem eq_bits (S T : Nat → Bool) (w : World) : (Op.equalIn 10000 24 (.agg (cellsOf S)) (.agg (cellsOf T))).run Tryz.prog w = .ok (sameB S T) w := by
  have z3 := Tryz.sizeOf22
  rw [show (10000 : Nat) = 9999 + 1 from rfl, Op.equalIn]
  simp only [Sem.run_bind, run_underlying Tryz.underlying24, Result.andThen_ok]
  simp only [Std.Legacy.Range.forIn_eq_forIn_range', Std.Legacy.Range.size, Nat.sub_zero, Nat.add_sub_cancel, Nat.div_one]
  rw [z3]
  simp only [Result.andThen_ok]
  rw [eq_loop S T w (List.range' 0 256) (fun i hi => by simp at hi; omega)]
  unfold sameB
  cases (List.range' 0 256).all fun i => word S i == word T i <;> rfl

end Go.Proofs.YtbfllifgmlkndaaGreatDoor
