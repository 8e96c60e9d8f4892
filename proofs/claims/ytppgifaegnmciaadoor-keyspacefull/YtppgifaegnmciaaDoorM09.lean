/- CrcP, DcCrc, DcSorted, DcMeth. -/
import Derived.WalkSpells
import Derived.Test.YtppgifaegnmciaaDoorM04
import Derived.Lib.SlBytesConst
import Derived.Lib.ConvBytes
import Derived.Test.YtppgifaegnmciaaDoorM05
import Derived.Sort.OwnSorted
import Derived.Test.YtppgifaegnmciaaDoorM02
namespace Go.Proofs.YtppgifaegnmciaaDoor
open Go.RowKit
open Crc

/-- the table lies in memory -/
def Tab (w : World) : Prop := ∀ i, i < 16 → w.cell? ⟨0, i, none⟩ = some (.int .u16 ((tabL.getD i 0#16).toNat : Int))

set_option maxHeartbeats 400000 in
theorem half_core (c h t : Int) (w : World) (hc : 0 ≤ c) (hc' : c ≤ 65535) (hi : 0 ≤ bits BinOp.xor IntKind.u8 (c / 4096) h) (hi' : bits BinOp.xor IntKind.u8 (c / 4096) h < 16)
    (hcell : w.cell? ⟨0, (bits BinOp.xor IntKind.u8 (c / 4096) h).toNat, none⟩ = some (.int .u16 t)) :
    Calls Tryd.prog 74 #[.int .u16 c, .int .u8 h] w fun e w' => e = .returned (.int .u16 (bits BinOp.xor IntKind.u16 (IntKind.u16.wrap (c * 16)) t)) ∧ w' = w := by
  go_enter Tryd.func74, Tryd.ntmps74
  go_wp2
  go_ret
  exact ⟨rfl, rfl⟩

theorem top4 (c : BitVec 16) : ((c.toNat : Int) / 4096) = ((c.extractLsb' 12 4).toNat : Int) := by
  have := c.isLt
  rw [BitVec.extractLsb'_toNat, Nat.shiftRight_eq_div_pow]
  omega
theorem shl4 (c : BitVec 16) : IntKind.u16.wrap ((c.toNat : Int) * 16) = ((c <<< 4).toNat : Int) := by
  rw [IntKind.wrap_u16, BitVec.toNat_shiftLeft, Nat.shiftLeft_eq]
  omega
theorem idx4 (c : BitVec 16) (h : BitVec 4) : bits BinOp.xor IntKind.u8 ((c.toNat : Int) / 4096) (h.toNat : Int) = ((c.extractLsb' 12 4 ^^^ h).toNat : Int) := by
  have h1 := (c.extractLsb' 12 4).isLt
  have h2 := h.isLt
  rw [top4, u8_xor_nat _ _ (by omega) (by omega), BitVec.toNat_xor]

theorem half_any (c : BitVec 16) (h : BitVec 4) (w : World) (ht : Tab w) :
    Calls Tryd.prog 74 #[.int .u16 (c.toNat : Int), .int .u8 (h.toNat : Int)] w fun e w' => e = .returned (.int .u16 ((halfB c h).toNat : Int)) ∧ w' = w := by
  have h1 := c.isLt
  have h2 := h.isLt
  have h3 := (c.extractLsb' 12 4 ^^^ h).isLt
  have hx := idx4 c h
  refine (half_core (c.toNat : Int) (h.toNat : Int) ((tabB (c.extractLsb' 12 4 ^^^ h)).toNat : Int) w (by omega) (by omega) (by omega) (by omega) ?_).mono ?_
  · rw [hx, Int.toNat_natCast]
    exact ht _ h3
  · rintro e w' ⟨rfl, rfl⟩
    refine ⟨?_, rfl⟩
    rw [shl4, xor16]
    rfl

theorem hi4 (x : BitVec 8) : ((x.toNat : Int) / 16) = ((x.extractLsb' 4 4).toNat : Int) := by
  have := x.isLt
  rw [BitVec.extractLsb'_toNat, Nat.shiftRight_eq_div_pow]
  omega
theorem lo4 (x : BitVec 8) : bits BinOp.and IntKind.u8 (x.toNat : Int) 15 = ((x.extractLsb' 0 4).toNat : Int) := by
  have := x.isLt
  have e : bits BinOp.and IntKind.u8 (x.toNat : Int) 15 = (x.toNat : Int) % 16 := bits_mask .u8 8 (by decide) wraps_u8 4 (by decide) _ (by omega) (by omega)
  rw [BitVec.extractLsb'_toNat, e]
  simp
set_option maxHeartbeats 400000 in
theorem more_some (c : BitVec 16) (b off cap : Nat) (l : List (BitVec 8)) (w : World) (ht : Tab w) (hl : l.length ≤ 9223372036854775807)
    (hc : ∀ j, j < l.length → w.cell? ⟨b, off + j, none⟩ = some (.int .u8 ((l.getD j 0#8).toNat : Int))) :
    Calls Tryd.prog 58 #[.int .u16 (c.toNat : Int), .slice (some ⟨b, off, none⟩) l.length cap] w fun e w' => e = .returned (.int .u16 ((more c l).toNat : Int)) ∧ w' = w := by
  have HT := hid ht
  have HC := hid hc
  clear ht hc
  go_enter Tryd.func58, Tryd.ntmps58
  go_wp2
  go_loop [0, 9] (fun d i => ∃ k : Nat, k ≤ l.length ∧ i = .int .i64 k ∧ d = .int .u16 ((more c (l.take k)).toNat : Int)) (fun _ i => l.length - (intOf i).toNat)
  case atStart => exact ⟨0, Nat.zero_le _, rfl, rfl⟩
  case round =>
    obtain ⟨k, hk, rfl, rfl⟩ := hrel
    by_cases hlt : k < l.length
    · have hcell := HC.out k hlt
      have HS := hid (more_snoc c l k hlt)
      generalize hD : more c (l.take k) = D at HS ⊢
      generalize hX : l.getD k 0#8 = X at HS hcell
      have HX := hid (code_step D X)
      have h4 := hi4 X
      have h0 := lo4 X
      have hb := X.isLt
      generalize X.extractLsb' 4 4 = H4 at HX h4
      generalize X.extractLsb' 0 4 = H0 at HX h0
      generalize (X.toNat : Int) = x at hcell h4 h0
      clear hD hX hb
      go_wp2_with (go_at_call 74; refine (half_any _ _ _ HT.out).mono ?_; rintro e w' ⟨rfl, rfl⟩)
      go_round
      case rel => exact ⟨k + 1, by omega, by go_num, by rw [HS.out, HX.out]⟩
      case measure => simp [intOf]; omega
    · go_wp2
      go_ret
      exact ⟨ret_int (by rw [List.take_of_length_le (by omega)]), rfl⟩

theorem more_none (c : BitVec 16) (a : Option Addr) (cap : Nat) (w : World) :
    Calls Tryd.prog 58 #[.int .u16 (c.toNat : Int), .slice a 0 cap] w fun e w' => e = .returned (.int .u16 (c.toNat : Int)) ∧ w' = w := by
  go_enter Tryd.func58, Tryd.ntmps58
  go_wp2
  refine wp_loop_rounds 1 ?_
  rw [rounds_succ]
  go_wp2
  go_ret
  exact ⟨rfl, rfl⟩
/-- More, of whatever bytes -/
theorem more_any (c : BitVec 16) (a : Option Addr) (cap : Nat) (l : List (BitVec 8)) (w : World) (ht : Tab w) (hr : Bts w a l) :
    Calls Tryd.prog 58 #[.int .u16 (c.toNat : Int), .slice a l.length cap] w fun e w' => e = .returned (.int .u16 ((more c l).toNat : Int)) ∧ w' = w := by
  by_cases h : l = []
  · subst h
    exact more_none c a cap w
  · obtain ⟨b, off, rfl, hc⟩ := hr.2 h
    exact more_some c b off cap l w ht hr.1 hc
/-- Sum, of whatever bytes -/
theorem sum_any (a : Option Addr) (cap : Nat) (l : List (BitVec 8)) (w : World) (ht : Tab w) (hr : Bts w a l) :
    Calls Tryd.prog 50 #[.slice a l.length cap] w fun e w' => e = .returned (.int .u16 ((more 0#16 l).toNat : Int)) ∧ w' = w := by
  have HT := hid ht
  have HR := hid hr
  clear ht hr
  go_enter Tryd.func50, Tryd.ntmps50
  go_wp2_with (go_at_call 58; refine (more_any 0#16 _ _ l _ HT.out HR.out).mono ?_; rintro e w' ⟨rfl, rfl⟩)
  go_ret
  exact ⟨rfl, rfl⟩

theorem Tab.below {w w' : World} {n : Nat} (h : Tab w) (hb : Below n w w') (hn : 0 < n) : Tab w' := fun i hi => by
  rw [hb.cell (p := ⟨0, i, none⟩) hn]
  exact h i hi
/-- Sum of bytes -/
theorem psum_any (a : Option Addr) (cap : Nat) (l : Nm) (w : World) (ht : Tab w) (hr : Byts w a l) :
    Calls Tryd.prog 50 #[.slice a l.length cap] w fun e w' => e = .returned (.int .u16 (sumN l : Int)) ∧ w' = w := by
  have := sum_any a cap (l.map UInt8.toBitVec) w ht hr
  rw [List.length_map] at this
  exact this

end Go.Proofs.YtppgifaegnmciaaDoor

namespace Go.Proofs.YtppgifaegnmciaaDoor.Dc
open Go.RowKit

theorem bytesWorld_below (w : World) (e : TypeId) (s : ByteArray) : Below w.heap.size w (Lib.bytesWorld w e s) :=
  ⟨rfl, rfl, rfl, by rw [Lib.bytesWorld_size]; omega, fun k hk => Lib.bytesWorld_at_old w e s k hk⟩
theorem bytesWorld_row (w : World) (e : TypeId) (l : List UInt8) (hl : l.length ≤ 9223372036854775807) : Bts (Lib.bytesWorld w e ⟨l.toArray⟩) (some ⟨w.heap.size, 0, none⟩) (l.map UInt8.toBitVec) := by
  refine ⟨by simpa using hl, fun _ => ⟨_, _, rfl, fun j hj => ?_⟩⟩
  have hj' : j < l.length := by simpa using hj
  rw [Nat.zero_add, Lib.bytesWorld_cell w e ⟨l.toArray⟩ j (by simpa [ByteArray.size] using hj')]
  simp [List.getD, hj']
theorem sum_of (l : List UInt8) (c : Nat) (w : World) (ht : Tab w) (hr : 0 < w.heap.size) (hl : l.length ≤ 9223372036854775807) :
    Calls Tryd.prog 50 #[.slice (some ⟨w.heap.size, 0, none⟩) l.length c] (Lib.bytesWorld w 5 ⟨l.toArray⟩) fun e w' => e = .returned (.int .u16 ((Crc.more 0#16 (l.map UInt8.toBitVec)).toNat : Int)) ∧ w' = Lib.bytesWorld w 5 ⟨l.toArray⟩ := by
  have := sum_any (some ⟨w.heap.size, 0, none⟩) c (l.map UInt8.toBitVec) (Lib.bytesWorld w 5 ⟨l.toArray⟩) (ht.below (bytesWorld_below w _ _) (by omega)) (bytesWorld_row w _ l hl)
  rw [List.length_map] at this
  exact this

end Go.Proofs.YtppgifaegnmciaaDoor.Dc

namespace Go.Proofs.YtppgifaegnmciaaDoor.Dc
open Go.RowKit Go.Sort

/-- a row behind the sort -/
def srtR (l : Row) : Row := l.mergeSort (fun x y => decide (x ≤ y))
theorem srtR_len (l : Row) : (srtR l).length = l.length := by simp [srtR]
/-- slices.Sort -/
theorem sort_any {B : Nat} {w : World} {g m c : Nat} {l : Row} (h : Own B w (.slice (some ⟨g, 0, none⟩) m c) l) (hB : B ≤ w.heap.size) (hl : l.length ≤ 1000000) (hm : m = l.length) :
    Calls Tryd.prog 40 #[.slice (some ⟨g, 0, none⟩) m c] w fun e w' => e = .returned (.tuple #[]) ∧ Hid (Own B w' (.slice (some ⟨g, 0, none⟩) m c) (srtR l) ∧ Below B w w') := by
  subst hm
  rcases h.2 with ⟨e, _⟩ | ⟨g', cap, cur, e, hbase, hb, h1, h2, h3, h4⟩
  · cases e
  · injection e with e e2 e3
    injection e with e
    injection e with e
    subst e e3
    refine (Tryd.slices_Sort_string g 0 c l w (holds_of_block hb (by simpa using h4)) (Array.getElem?_eq_some_iff.1 hb).1 (by omega)).mono ?_
    rintro e w' ⟨rfl, n, os, rfl⟩
    refine ⟨rfl, ?_, (Below.refl B w).grown (grownBy_sorted _) hB (fun k hk => by injection hk with hk; rw [← hk]; exact hbase)⟩
    have := ownsRow_sorted (n := n) (os := os) (ts := srtR l) (srtR_len l) hbase hb h1 h2 h3
    show World.ownsRow _ B 9 1 _ (srtR l).length _
    rw [srtR_len]
    exact this
theorem le_of_not {a b : Nm} (h : ¬ b < a) : a ≤ b := h
theorem nm_le_trans {a b c : Nm} (h : a ≤ b) (k : b ≤ c) : a ≤ c := List.le_trans h k
/-- sorted, a row is the one of the same texts that rises -/
theorem srtR_eq {l m : Row} (hp : l.Perm m) (hm : m.Pairwise (fun a b => a < b)) : srtR l = m := by
  have h1 : (srtR l).Pairwise (fun a b => decide (a ≤ b) = true) := List.pairwise_mergeSort (le := fun x y : Nm => decide (x ≤ y)) (fun a b c h k => by
    simp only [decide_eq_true_eq] at h k ⊢
    exact nm_le_trans h k) (fun a b => by
    simp only [Bool.or_eq_true, decide_eq_true_eq]
    exact List.le_total a b) l
  have h2 : m.Pairwise (fun a b => decide (a ≤ b) = true) := hm.imp (fun {a b} h => by
    simp only [decide_eq_true_eq]
    exact List.le_of_lt h)
  refine List.Perm.eq_of_pairwise (fun a b _ _ h k => ?_) h1 h2 ((List.mergeSort_perm l _).trans hp)
  simp only [decide_eq_true_eq] at h k
  exact List.le_antisymm h k

end Go.Proofs.YtppgifaegnmciaaDoor.Dc

namespace Go.Proofs.YtppgifaegnmciaaDoor.Dc

/-- a pointer to a block -/
abbrev ptr (b : Nat) : Value := .pointer (some ⟨b, 0, none⟩)
/-- all blocks but its own -/
abbrev Off (O : Nat → Prop) : Nat → Prop := fun k => ¬ O k
/-- its own blocks behind a call: the elder ones, or new ones -/
abbrev Grew (w : World) (O O' : Nat → Prop) : Prop := ∀ k, O' k → O k ∨ w.heap.size ≤ k
/-- the names -/
def namesL {α : Type} (l : Its α) : Row := l.map (·.1)

end Go.Proofs.YtppgifaegnmciaaDoor.Dc
