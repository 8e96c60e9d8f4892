/- What of a key counts, and its slot: the calls strings.Cut, Tag, Of; each answers what the plain function of the texts Text and CrcBits answers. -/
import Derived.Test.YtgpdbcigogkkbaaDoorCrc
import Derived.Test.YtgpdbcigogkkbaaDoorText
import Derived.Test.YtgpdbcigogkkbaaDoorShelf
import Derived.Lib.SlBytesConst
import Derived.Deep.Draws
namespace Go.Proofs.YtgpdbcigogkkbaaDoor
open Go.RowKit
open Slot

/-- what the calls read of the package-level variables -/
structure Env (w : World) : Prop where
  room : 7 ≤ w.heap.size
  tab : Tab w
  pow : Lib.TabIs Tryd.prog w "internal/strconv.uint64pow10" .u64 Lib.pow10Tab
  syn : ∃ tp p, w.var? Tryd.prog "strconv.ErrSyntax" = some #[.iface tp p]
  ran : ∃ tp p, w.var? Tryd.prog "strconv.ErrRange" = some #[.iface tp p]
theorem gPow : Tryd.prog.globalNamed "internal/strconv.uint64pow10" = some 1 := by kernel_rfl
theorem gSyn : Tryd.prog.globalNamed "strconv.ErrSyntax" = some 5 := by kernel_rfl
theorem gRan : Tryd.prog.globalNamed "strconv.ErrRange" = some 6 := by kernel_rfl
theorem Env.keep {w w' : World} (h : Env w) (hs : w.heap.size ≤ w'.heap.size) (hb : ∀ k, k < 7 → w'.heap[k]? = w.heap[k]?) : Env w' := by
  refine ⟨Nat.le_trans h.room hs, fun i hi => ?_, ?_, ?_, ?_⟩
  · rw [World.cell?_of_block (w := w) (hb 0 (by decide))]; exact h.tab i hi
  · have := h.pow
    unfold Lib.TabIs World.var? at this ⊢
    rw [gPow] at this ⊢
    simp only [Option.bind_some] at this ⊢
    rw [hb 1 (by decide)]; exact this
  · have := h.syn
    unfold World.var? at this ⊢
    rw [gSyn] at this ⊢
    simp only [Option.bind_some] at this ⊢
    rw [hb 5 (by decide)]; exact this
  · have := h.ran
    unfold World.var? at this ⊢
    rw [gRan] at this ⊢
    simp only [Option.bind_some] at this ⊢
    rw [hb 6 (by decide)]; exact this
theorem Env.below {w w' : World} {n : Nat} (h : Env w) (hb : Below n w w') (hn : 7 ≤ n) : Env w' := h.keep hb.size fun k hk => hb.block k (by omega)
theorem Env.only {w w' : World} {b : Nat} (h : Env w) (hb : Only b w w') (hn : 7 ≤ b) : Env w' := h.keep hb.size fun k hk => hb.block k (by have := h.room; omega) (by omega)
theorem Env.drewN {w : World} (h : Env w) (n : Nat) : Env (w.drewN n) := h.keep (Nat.le_refl _) fun _ _ => rfl
theorem Below.drewN {B : Nat} {a w : World} (h : Below B a w) (n : Nat) : Below B a (w.drewN n) := ⟨h.os, h.tape, h.output, h.size, h.block⟩

theorem index_one (l : List UInt8) (c : UInt8) : Lib.indexByte l c = Lib.index l [c] := (Lib.index_one l c).symm
set_option maxHeartbeats 1000000 in
theorem cut_inner (l : List UInt8) (c : UInt8) (w : World) (hl : l.length ≤ 9223372036854775807) :
    Calls Tryd.prog 54 #[.string ⟨l.toArray⟩, .string ⟨#[c]⟩] w fun e w' => e = .returned (.tuple #[.string ⟨(cut c l).1.toArray⟩, .string ⟨(cut c l).2.1.toArray⟩, .bool (cut c l).2.2]) ∧ ∃ n, w' = w.drewN n := by
  have HI := hid (Tryd.stringslite_Index_one ⟨l.toArray⟩ c)
  rw [← cut_lib c l]
  rcases Lib.indexB_cases ⟨l.toArray⟩ ⟨#[c]⟩ with hix | ⟨i, hix, hroom⟩
  · obtain ⟨e1, e2, e3⟩ := Lib.cutB_miss ⟨l.toArray⟩ ⟨#[c]⟩ hix
    simp only at e1 e2 e3
    rw [e1, e2, e3]
    have HX : Hid (Lib.indexByte l c = -1) := (index_one l c).trans hix
    clear hix
    go_enter Tryd.func54, Tryd.ntmps54
    go_wp2_with (go_at_call 64; refine (HI.out _).mono ?_; rintro e w' ⟨rfl, rfl⟩; rw [HX.out])
    go_ret3
    exact ⟨rfl, 0, rfl⟩
  · obtain ⟨e1, e2, e3⟩ := Lib.cutB_hit ⟨l.toArray⟩ ⟨#[c]⟩ i hix
    simp only at e1 e2 e3
    rw [e1, e2, e3]
    have HX : Hid (Lib.indexByte l c = i) := (index_one l c).trans hix
    have c0 : i < l.length := by have := hroom; simp [ByteArray.size] at this; omega
    clear hix hroom
    go_enter Tryd.func54, Tryd.ntmps54
    go_wp2_with (go_at_call 64; refine (HI.out _).mono ?_; rintro e w' ⟨rfl, rfl⟩; rw [HX.out])
    go_quiet ((fail))
    go_wp2
    go_ret3
    exact ⟨rfl, _, rfl⟩
/-- strings.Cut, of one byte -/
theorem cut_any (l : List UInt8) (c : UInt8) (w : World) (hl : l.length ≤ 9223372036854775807) :
    Calls Tryd.prog 46 #[.string ⟨l.toArray⟩, .string ⟨#[c]⟩] w fun e w' => e = .returned (.tuple #[.string ⟨(cut c l).1.toArray⟩, .string ⟨(cut c l).2.1.toArray⟩, .bool (cut c l).2.2]) ∧ ∃ n, w' = w.drewN n := by
  go_enter Tryd.func46, Tryd.ntmps46
  go_wp2_with (go_at_call 54; refine (cut_inner _ _ _ hl).mono ?_; rintro e w' ⟨rfl, n, rfl⟩)
  go_ret3
  exact ⟨rfl, n, rfl⟩
theorem cut_at {l : List UInt8} {c : UInt8} {p r : List UInt8} {m : Bool} (h : cut c l = (p, r, m)) (hl : l.length ≤ 9223372036854775807) (w : World) :
    Calls Tryd.prog 46 #[.string ⟨l.toArray⟩, .string ⟨#[c]⟩] w fun e w' => e = .returned (.tuple #[.string ⟨p.toArray⟩, .string ⟨r.toArray⟩, .bool m]) ∧ ∃ n, w' = w.drewN n := by
  have := cut_any l c w hl
  rw [h] at this
  exact this

theorem ret_str {a b : List UInt8} (h : a = b) : Ending.returned (.string ⟨a.toArray⟩) = .returned (.string ⟨b.toArray⟩) := by rw [h]
theorem tag_eq (key : List UInt8) : tag key = if (cut 123 key).2.2 = false then key
  else if (cut 125 (cut 123 key).2.1).2.2 = false ∨ (cut 125 (cut 123 key).2.1).1 = [] then key
  else (cut 125 (cut 123 key).2.1).1 := rfl
theorem cut_short (c : UInt8) (l : List UInt8) : (cut c l).1.length ≤ l.length ∧ (cut c l).2.1.length ≤ l.length := by
  rcases cut_cases c l with ⟨p, r, rfl, h⟩ | h
  · rw [cut_hit h]; simp; omega
  · rw [cut_miss h]; simp

/-- a key's slot -/
def slotOf (l : List UInt8) : Nat := (Crc.more 0#16 ((tag l).map UInt8.toBitVec)).toNat % 16384
theorem bytesWorld_below (w : World) (e : TypeId) (s : ByteArray) : Below w.heap.size w (Lib.bytesWorld w e s) :=
  ⟨rfl, rfl, rfl, by rw [Lib.bytesWorld_size]; omega, fun k hk => Lib.bytesWorld_at_old w e s k hk⟩
theorem bytesWorld_row (w : World) (e : TypeId) (l : List UInt8) (hl : l.length ≤ 9223372036854775807) : Row (Lib.bytesWorld w e ⟨l.toArray⟩) (some ⟨w.heap.size, 0, none⟩) (l.map UInt8.toBitVec) := by
  refine ⟨by simpa using hl, fun _ => ⟨_, _, rfl, fun j hj => ?_⟩⟩
  have hj' : j < l.length := by simpa using hj
  rw [Nat.zero_add, Lib.bytesWorld_cell w e ⟨l.toArray⟩ j (by simpa [ByteArray.size] using hj')]
  simp [List.getD, hj']
theorem Tab.below {w w' : World} {n : Nat} (h : Tab w) (hb : Below n w w') (hn : 0 < n) : Tab w' := fun i hi => by
  rw [hb.cell (p := ⟨0, i, none⟩) hn]
  exact h i hi
theorem sum_of (l : List UInt8) (c : Nat) (w : World) (ht : Tab w) (hr : 7 ≤ w.heap.size) (hl : l.length ≤ 9223372036854775807) :
    Calls Tryd.prog 24 #[.slice (some ⟨w.heap.size, 0, none⟩) l.length c] (Lib.bytesWorld w 5 ⟨l.toArray⟩) fun e w' => e = .returned (.int .u16 ((Crc.more 0#16 (l.map UInt8.toBitVec)).toNat : Int)) ∧ w' = Lib.bytesWorld w 5 ⟨l.toArray⟩ := by
  have := sum_any (some ⟨w.heap.size, 0, none⟩) c (l.map UInt8.toBitVec) (Lib.bytesWorld w 5 ⟨l.toArray⟩) (ht.below (bytesWorld_below w _ _) (by omega)) (bytesWorld_row w _ l hl)
  rw [List.length_map] at this
  exact this
end Go.Proofs.YtgpdbcigogkkbaaDoor
