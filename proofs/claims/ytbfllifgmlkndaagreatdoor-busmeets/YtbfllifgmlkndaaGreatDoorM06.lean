/- Keys, Has. -/
import Derived.Lib.SlBytesConst
import Derived.Deep.Draws
import Derived.Test.YtbfllifgmlkndaaGreatDoorM05
import Derived.Test.YtbfllifgmlkndaaGreatDoorM02
namespace Go.Proofs.YtbfllifgmlkndaaGreatDoor
open Go.RowKit
open Slot

/-- what the calls read of the package-level variables -/
structure Env (w : World) : Prop where
  room : 7 ≤ w.heap.size
  tab : Tab w
  pow : Lib.TabIs Tryz.prog w "internal/strconv.uint64pow10" .u64 Lib.pow10Tab
  syn : ∃ tp p, w.var? Tryz.prog "strconv.ErrSyntax" = some #[.iface tp p]
  ran : ∃ tp p, w.var? Tryz.prog "strconv.ErrRange" = some #[.iface tp p]
theorem gPow : Tryz.prog.globalNamed "internal/strconv.uint64pow10" = some 2 := by kernel_rfl
theorem gSyn : Tryz.prog.globalNamed "strconv.ErrSyntax" = some 3 := by kernel_rfl
theorem gRan : Tryz.prog.globalNamed "strconv.ErrRange" = some 4 := by kernel_rfl
theorem Env.keep {w w' : World} (h : Env w) (hs : w.heap.size ≤ w'.heap.size) (hb : ∀ k, k < 7 → w'.heap[k]? = w.heap[k]?) : Env w' := by
  refine ⟨Nat.le_trans h.room hs, fun i hi => ?_, ?_, ?_, ?_⟩
  · rw [World.cell?_of_block (w := w) (hb 0 (by decide))]; exact h.tab i hi
  · have := h.pow
    unfold Lib.TabIs World.var? at this ⊢
    rw [gPow] at this ⊢
    simp only [Option.bind_some] at this ⊢
    rw [hb 2 (by decide)]; exact this
  · have := h.syn
    unfold World.var? at this ⊢
    rw [gSyn] at this ⊢
    simp only [Option.bind_some] at this ⊢
    rw [hb 3 (by decide)]; exact this
  · have := h.ran
    unfold World.var? at this ⊢
    rw [gRan] at this ⊢
    simp only [Option.bind_some] at this ⊢
    rw [hb 4 (by decide)]; exact this
theorem Env.below {w w' : World} {n : Nat} (h : Env w) (hb : Below n w w') (hn : 7 ≤ n) : Env w' := h.keep hb.size fun k hk => hb.block k (by omega)
theorem Env.only {w w' : World} {b : Nat} (h : Env w) (hb : Only b w w') (hn : 7 ≤ b) : Env w' := h.keep hb.size fun k hk => hb.block k (by have := h.room; omega) (by omega)
theorem Env.drewN {w : World} (h : Env w) (n : Nat) : Env (w.drewN n) := h.keep (Nat.le_refl _) fun _ _ => rfl
theorem Below.drewN {B : Nat} {a w : World} (h : Below B a w) (n : Nat) : Below B a (w.drewN n) := ⟨h.os, h.tape, h.output, h.size, h.block⟩

theorem index_one (l : List UInt8) (c : UInt8) : Lib.indexByte l c = Lib.index l [c] := (Lib.index_one l c).symm
set_option maxHeartbeats 1000000 in
theorem cut_inner (l : List UInt8) (c : UInt8) (w : World) (hl : l.length ≤ 9223372036854775807) :
    Calls Tryz.prog 103 #[.string ⟨l.toArray⟩, .string ⟨#[c]⟩] w fun e w' => e = .returned (.tuple #[.string ⟨(cut c l).1.toArray⟩, .string ⟨(cut c l).2.1.toArray⟩, .bool (cut c l).2.2]) ∧ ∃ n, w' = w.drewN n := by
  have HI := hid (Tryz.stringslite_Index_one ⟨l.toArray⟩ c)
  rw [← cut_lib c l]
  rcases Lib.indexB_cases ⟨l.toArray⟩ ⟨#[c]⟩ with hix | ⟨i, hix, hroom⟩
  · obtain ⟨e1, e2, e3⟩ := Lib.cutB_miss ⟨l.toArray⟩ ⟨#[c]⟩ hix
    simp only at e1 e2 e3
    rw [e1, e2, e3]
    have HX : Hid (Lib.indexByte l c = -1) := (index_one l c).trans hix
    clear hix
    go_enter Tryz.func103, Tryz.ntmps103
    go_wp2_with (go_at_call 110; refine (HI.out _).mono ?_; rintro e w' ⟨rfl, rfl⟩; rw [HX.out])
    go_ret3
    exact ⟨rfl, 0, rfl⟩
  · obtain ⟨e1, e2, e3⟩ := Lib.cutB_hit ⟨l.toArray⟩ ⟨#[c]⟩ i hix
    simp only at e1 e2 e3
    rw [e1, e2, e3]
    have HX : Hid (Lib.indexByte l c = i) := (index_one l c).trans hix
    have c0 : i < l.length := by have := hroom; simp [ByteArray.size] at this; omega
    clear hix hroom
    go_enter Tryz.func103, Tryz.ntmps103
    go_wp2_with (go_at_call 110; refine (HI.out _).mono ?_; rintro e w' ⟨rfl, rfl⟩; rw [HX.out])
    go_quiet ((fail))
    go_wp2
    go_ret3
    exact ⟨rfl, _, rfl⟩
/-- strings.Cut, of one byte -/
theorem cut_any (l : List UInt8) (c : UInt8) (w : World) (hl : l.length ≤ 9223372036854775807) :
    Calls Tryz.prog 97 #[.string ⟨l.toArray⟩, .string ⟨#[c]⟩] w fun e w' => e = .returned (.tuple #[.string ⟨(cut c l).1.toArray⟩, .string ⟨(cut c l).2.1.toArray⟩, .bool (cut c l).2.2]) ∧ ∃ n, w' = w.drewN n := by
  go_enter Tryz.func97, Tryz.ntmps97
  go_wp2_with (go_at_call 103; refine (cut_inner _ _ _ hl).mono ?_; rintro e w' ⟨rfl, n, rfl⟩)
  go_ret3
  exact ⟨rfl, n, rfl⟩
theorem cut_short (c : UInt8) (l : List UInt8) : (cut c l).1.length ≤ l.length ∧ (cut c l).2.1.length ≤ l.length := by
  rcases cut_cases c l with ⟨p, r, rfl, h⟩ | h
  · rw [cut_hit h]; simp; omega
  · rw [cut_miss h]; simp

theorem bytesWorld_below (w : World) (e : TypeId) (s : ByteArray) : Below w.heap.size w (Lib.bytesWorld w e s) :=
  ⟨rfl, rfl, rfl, by rw [Lib.bytesWorld_size]; omega, fun k hk => Lib.bytesWorld_at_old w e s k hk⟩
theorem bytesWorld_row (w : World) (e : TypeId) (l : List UInt8) (hl : l.length ≤ 9223372036854775807) : Row (Lib.bytesWorld w e ⟨l.toArray⟩) (some ⟨w.heap.size, 0, none⟩) (l.map UInt8.toBitVec) := by
  refine ⟨by simpa using hl, fun _ => ⟨_, _, rfl, fun j hj => ?_⟩⟩
  have hj' : j < l.length := by simpa using hj
  rw [Nat.zero_add, Lib.bytesWorld_cell w e ⟨l.toArray⟩ j (by simpa [ByteArray.size] using hj')]
  simp [List.getD, hj']
theorem Tab.below {w w' : World} {n : Nat} (h : Tab w) (hb : Below n w w') (hn : 0 < n) : Tab w' := fun i hi => by
  rw [hb.cell (p := ⟨0, i, none⟩) hn]
  exact h i hi
theorem sum_of (l : List UInt8) (c : Nat) (w : World) (ht : Tab w) (hr : 7 ≤ w.heap.size) (hl : l.length ≤ 9223372036854775807) :
    Calls Tryz.prog 66 #[.slice (some ⟨w.heap.size, 0, none⟩) l.length c] (Lib.bytesWorld w 5 ⟨l.toArray⟩) fun e w' => e = .returned (.int .u16 ((Crc.more 0#16 (l.map UInt8.toBitVec)).toNat : Int)) ∧ w' = Lib.bytesWorld w 5 ⟨l.toArray⟩ := by
  have := sum_any (some ⟨w.heap.size, 0, none⟩) c (l.map UInt8.toBitVec) (Lib.bytesWorld w 5 ⟨l.toArray⟩) (ht.below (bytesWorld_below w _ _) (by omega)) (bytesWorld_row w _ l hl)
  rw [List.length_map] at this
  exact this
end Go.Proofs.YtbfllifgmlkndaaGreatDoor

namespace Go.Proofs.YtbfllifgmlkndaaGreatDoor
open Go.RowKit
open Slot

theorem box_new (w : World) (S : Nat → Bool) : Box (w.alloc (.cells (cellsOf S) 24)) w.heap.size S := heap_alloc_new w _
theorem below_alloc (w : World) (o : Obj) : Below w.heap.size w (w.alloc o) := (Below.refl _ w).alloc (Nat.le_refl _) o

theorem infoBits (T : Nat → Bool) : (Tryz.prog.info? 24).map (·.size) = some (cellsOf T).size := by
  rw [cellsOf_size]; kernel_rfl
theorem zeroRep : Tryz.zeroCells24 = Array.replicate 256 (.int .u64 0) := by kernel_rfl
theorem zeroBits : Tryz.zeroCells24 = cellsOf (fun _ => false) := by
  apply Array.ext
  · rw [cellsOf_size]; kernel_rfl
  · intro i h1 h2
    have hi : i < 256 := by rw [cellsOf_size] at h2; exact h2
    have h := cellsOf_get (fun _ => false) i hi
    rw [word_none, Array.getElem?_eq_getElem h2] at h
    rw [Option.some.inj h]
    have := congrArg (fun c : Array Value => c[i]?) zeroRep
    rw [Array.getElem?_eq_getElem h1, Array.getElem?_replicate, if_pos hi] at this
    exact Option.some.inj this
theorem oneCells (T : Nat → Bool) : (cellsOf T).all (·.oneCell') = true := by
  rw [Array.all_eq_true]
  intro i hi
  simp [cellsOf, Value.oneCell']
theorem box_size {w : World} {b : Nat} {C : Array Value} {T : Nat → Bool} (h : w.heap[b]? = some (.cells C 24 (0, 0))) : Box (w.setRow b (cellsOf T)) b T := setRow_heap w b C _ _ _ h
theorem below_setRow {B : Nat} {a w : World} (h : Below B a w) {g : Nat} (hg : B ≤ g) (cs : Array Value) : Below B a (w.setRow g cs) :=
  h.trans ⟨rfl, rfl, rfl, by simp, fun k hk => setRow_other w g k cs (by omega)⟩
/-- a set that is told lies in its own block -/
theorem ret_box {fn : Func} {p : Tmp} (h : fn.results = #[.cell p 24]) {tmps : Array Value} {w : World} {b : Nat} {S : Nat → Bool} (hp : tmps.getD p undef = .pointer (some ⟨b, 0, none⟩)) (hB : Box w b S) :
    (results fn tmps).run Tryz.prog w = .ok (.agg (cellsOf S)) w :=
  results_cell_row h tmps w b 24 (cellsOf S) (0, 0) _ hp hB Tryz.underlying24 rfl (infoBits S)

end Go.Proofs.YtbfllifgmlkndaaGreatDoor
