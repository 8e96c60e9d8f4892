/- CrcP, DcCrc. -/
import Derived.WalkSpells
import Derived.Lib.ItoaMem
import Derived.Shelf.Unicode.DecodeSlow
import Derived.Test.YtcbncdigejjcpaaGreatDoorM13
import Derived.Lib.SlBytesConst
import Derived.Lib.ConvBytes
import Derived.Test.YtcbncdigejjcpaaGreatDoorM08
namespace Go.Proofs.YtcbncdigejjcpaaGreatDoor
open Go.RowKit
open Crc

/-- what is read of the package-level variables -/
structure Tab (w : World) : Prop where
  sums : ∀ i, i < 16 → w.cell? ⟨3, i, none⟩ = some (.int .u16 ((tabL.getD i 0#16).toNat : Int))
  room : 8 < w.heap.size
  pow : Lib.TabIs Tryz.prog w "internal/strconv.uint64pow10" .u64 Lib.pow10Tab
  utf : Lib.Utf8Tabs 4 5 w
  syn : ∃ tp p, w.var? Tryz.prog "strconv.ErrSyntax" = some #[.iface tp p]
  ran : ∃ tp p, w.var? Tryz.prog "strconv.ErrRange" = some #[.iface tp p]

set_option maxHeartbeats 400000 in
theorem half_core (c h t : Int) (w : World) (hc : 0 ≤ c) (hc' : c ≤ 65535) (hi : 0 ≤ bits BinOp.xor IntKind.u8 (c / 4096) h) (hi' : bits BinOp.xor IntKind.u8 (c / 4096) h < 16)
    (hcell : w.cell? ⟨3, (bits BinOp.xor IntKind.u8 (c / 4096) h).toNat, none⟩ = some (.int .u16 t)) :
    Calls Tryz.prog 268 #[.int .u16 c, .int .u8 h] w fun e w' => e = .returned (.int .u16 (bits BinOp.xor IntKind.u16 (IntKind.u16.wrap (c * 16)) t)) ∧ w' = w := by
  go_enter Tryz.func268, Tryz.ntmps268
  go_wp2
  go_ret
  exact ⟨rfl, rfl⟩

theorem top4 (c : BitVec 16) : ((c.toNat : Int) / 4096) = ((c.extractLsb' 12 4).toNat : Int) := by
  have := c.isLt
  rw [BitVec.extractLsb'_toNat, Nat.shiftRight_eq_div_pow]
  omega
theorem shl4 (c : BitVec 16) : IntKind.u16.wrap ((c.toNat : Int) * 16) = ((c <<< 4).toNat : Int) := by
  rw [IntKind.wrap_u16, BitVec.toNat_shiftLeft, Nat.shiftLeft_eq]
  omega
theorem idx4 (c : BitVec 16) (h : BitVec 4) : bits BinOp.xor IntKind.u8 ((c.toNat : Int) / 4096) (h.toNat : Int) = ((c.extractLsb' 12 4 ^^^ h).toNat : Int) := by
  have h1 := (c.extractLsb' 12 4).isLt
  have h2 := h.isLt
  rw [top4, u8_xor_nat _ _ (by omega) (by omega), BitVec.toNat_xor]

theorem half_any (c : BitVec 16) (h : BitVec 4) (w : World) (ht : Tab w) :
    Calls Tryz.prog 268 #[.int .u16 (c.toNat : Int), .int .u8 (h.toNat : Int)] w fun e w' => e = .returned (.int .u16 ((halfB c h).toNat : Int)) ∧ w' = w := by
  have h1 := c.isLt
  have h2 := h.isLt
  have h3 := (c.extractLsb' 12 4 ^^^ h).isLt
  have hx := idx4 c h
  refine (half_core (c.toNat : Int) (h.toNat : Int) ((tabB (c.extractLsb' 12 4 ^^^ h)).toNat : Int) w (by omega) (by omega) (by omega) (by omega) ?_).mono ?_
  · rw [hx, Int.toNat_natCast]
    exact ht.sums _ h3
  · rintro e w' ⟨rfl, rfl⟩
    refine ⟨?_, rfl⟩
    rw [shl4, xor16]
    rfl

theorem hi4 (x : BitVec 8) : ((x.toNat : Int) / 16) = ((x.extractLsb' 4 4).toNat : Int) := by
  have := x.isLt
  rw [BitVec.extractLsb'_toNat, Nat.shiftRight_eq_div_pow]
  omega
theorem lo4 (x : BitVec 8) : bits BinOp.and IntKind.u8 (x.toNat : Int) 15 = ((x.extractLsb' 0 4).toNat : Int) := by
  have := x.isLt
  have e : bits BinOp.and IntKind.u8 (x.toNat : Int) 15 = (x.toNat : Int) % 16 := bits_mask .u8 8 (by decide) wraps_u8 4 (by decide) _ (by omega) (by omega)
  rw [BitVec.extractLsb'_toNat, e]
  simp
set_option maxHeartbeats 400000 in
theorem more_some (c : BitVec 16) (b off cap : Nat) (l : List (BitVec 8)) (w : World) (ht : Tab w) (hl : l.length ≤ 9223372036854775807)
    (hc : ∀ j, j < l.length → w.cell? ⟨b, off + j, none⟩ = some (.int .u8 ((l.getD j 0#8).toNat : Int))) :
    Calls Tryz.prog 230 #[.int .u16 (c.toNat : Int), .slice (some ⟨b, off, none⟩) l.length cap] w fun e w' => e = .returned (.int .u16 ((more c l).toNat : Int)) ∧ w' = w := by
  have HT := hid ht
  have HC := hid hc
  clear ht hc
  go_enter Tryz.func230, Tryz.ntmps230
  go_wp2
  go_loop [0, 9] (fun d i => ∃ k : Nat, k ≤ l.length ∧ i = .int .i64 k ∧ d = .int .u16 ((more c (l.take k)).toNat : Int)) (fun _ i => l.length - (intOf i).toNat)
  case atStart => exact ⟨0, Nat.zero_le _, rfl, rfl⟩
  case round =>
    obtain ⟨k, hk, rfl, rfl⟩ := hrel
    by_cases hlt : k < l.length
    · have hcell := HC.out k hlt
      have HS := hid (more_snoc c l k hlt)
      generalize hD : more c (l.take k) = D at HS ⊢
      generalize hX : l.getD k 0#8 = X at HS hcell
      have HX := hid (code_step D X)
      have h4 := hi4 X
      have h0 := lo4 X
      have hb := X.isLt
      generalize X.extractLsb' 4 4 = H4 at HX h4
      generalize X.extractLsb' 0 4 = H0 at HX h0
      generalize (X.toNat : Int) = x at hcell h4 h0
      clear hD hX hb
      go_wp2_with (go_at_call 268; refine (half_any _ _ _ HT.out).mono ?_; rintro e w' ⟨rfl, rfl⟩)
      go_round
      case rel => exact ⟨k + 1, by omega, by go_num, by rw [HS.out, HX.out]⟩
      case measure => simp [intOf]; omega
    · go_wp2
      go_ret
      exact ⟨ret_int (by rw [List.take_of_length_le (by omega)]), rfl⟩

theorem more_none (c : BitVec 16) (a : Option Addr) (cap : Nat) (w : World) :
    Calls Tryz.prog 230 #[.int .u16 (c.toNat : Int), .slice a 0 cap] w fun e w' => e = .returned (.int .u16 (c.toNat : Int)) ∧ w' = w := by
  go_enter Tryz.func230, Tryz.ntmps230
  go_wp2
  refine wp_loop_rounds 1 ?_
  rw [rounds_succ]
  go_wp2
  go_ret
  exact ⟨rfl, rfl⟩
/-- More, of whatever bytes -/
theorem more_any (c : BitVec 16) (a : Option Addr) (cap : Nat) (l : List (BitVec 8)) (w : World) (ht : Tab w) (hr : Bts w a l) :
    Calls Tryz.prog 230 #[.int .u16 (c.toNat : Int), .slice a l.length cap] w fun e w' => e = .returned (.int .u16 ((more c l).toNat : Int)) ∧ w' = w := by
  by_cases h : l = []
  · subst h
    exact more_none c a cap w
  · obtain ⟨b, off, rfl, hc⟩ := hr.2 h
    exact more_some c b off cap l w ht hr.1 hc
/-- Sum, of whatever bytes -/
theorem sum_any (a : Option Addr) (cap : Nat) (l : List (BitVec 8)) (w : World) (ht : Tab w) (hr : Bts w a l) :
    Calls Tryz.prog 188 #[.slice a l.length cap] w fun e w' => e = .returned (.int .u16 ((more 0#16 l).toNat : Int)) ∧ w' = w := by
  have HT := hid ht
  have HR := hid hr
  clear ht hr
  go_enter Tryz.func188, Tryz.ntmps188
  go_wp2_with (go_at_call 230; refine (more_any 0#16 _ _ l _ HT.out HR.out).mono ?_; rintro e w' ⟨rfl, rfl⟩)
  go_ret
  exact ⟨rfl, rfl⟩

theorem var_keep {w w' : World} {n : String} {g : Nat} (hg : Tryz.prog.globalNamed n = some g) (he : w'.heap[g]? = w.heap[g]?) : w'.var? Tryz.prog n = w.var? Tryz.prog n := by
  unfold World.var?
  rw [hg]
  simp only [Option.bind_some]
  rw [he]
theorem gPow : Tryz.prog.globalNamed "internal/strconv.uint64pow10" = some 6 := by kernel_rfl
theorem gSyn : Tryz.prog.globalNamed "strconv.ErrSyntax" = some 1 := by kernel_rfl
theorem gRan : Tryz.prog.globalNamed "strconv.ErrRange" = some 2 := by kernel_rfl
theorem Tab.turn {w w' : World} (h : Tab w) (k : ∀ k, k ≤ 8 → w'.heap[k]? = w.heap[k]?) (hs : w.heap.size ≤ w'.heap.size) : Tab w' := by
  refine ⟨fun i hi => ?_, Nat.lt_of_lt_of_le h.room hs, ?_, ⟨?_, ?_⟩, ?_, ?_⟩
  · rw [World.cell?_of_block (k 3 (by decide))]
    exact h.sums i hi
  · have := h.pow
    unfold Lib.TabIs at this ⊢
    rw [var_keep gPow (k 6 (by decide))]; exact this
  · intro c hc
    rw [World.cell?_of_block (k 4 (by decide))]; exact h.utf.1 c hc
  · intro i hi
    have e : ∀ j, w'.cell? ⟨5, j, none⟩ = w.cell? ⟨5, j, none⟩ := fun j => World.cell?_of_block (k 5 (by decide))
    rw [e, e]; exact h.utf.2 i hi
  · obtain ⟨tp, p, e⟩ := h.syn
    exact ⟨tp, p, (var_keep gSyn (k 1 (by decide))).trans e⟩
  · obtain ⟨tp, p, e⟩ := h.ran
    exact ⟨tp, p, (var_keep gRan (k 2 (by decide))).trans e⟩
theorem Tab.below {w w' : World} {n : Nat} (h : Tab w) (hb : Below n w w') (hn : 8 < n) : Tab w' := h.turn (fun k hk => hb.block k (by omega)) hb.size
/-- Sum of bytes -/
theorem psum_any (a : Option Addr) (cap : Nat) (l : Nm) (w : World) (ht : Tab w) (hr : Byts w a l) :
    Calls Tryz.prog 188 #[.slice a l.length cap] w fun e w' => e = .returned (.int .u16 (sumN l : Int)) ∧ w' = w := by
  have := sum_any a cap (l.map UInt8.toBitVec) w ht hr
  rw [List.length_map] at this
  exact this

end Go.Proofs.YtcbncdigejjcpaaGreatDoor

namespace Go.Proofs.YtcbncdigejjcpaaGreatDoor.Dc
open Go.RowKit

theorem bytesWorld_below (w : World) (e : TypeId) (s : ByteArray) : Below w.heap.size w (Lib.bytesWorld w e s) :=
  ⟨rfl, rfl, rfl, by rw [Lib.bytesWorld_size]; omega, fun k hk => Lib.bytesWorld_at_old w e s k hk⟩
theorem bytesWorld_row (w : World) (e : TypeId) (l : List UInt8) (hl : l.length ≤ 9223372036854775807) : Bts (Lib.bytesWorld w e ⟨l.toArray⟩) (some ⟨w.heap.size, 0, none⟩) (l.map UInt8.toBitVec) := by
  refine ⟨by simpa using hl, fun _ => ⟨_, _, rfl, fun j hj => ?_⟩⟩
  have hj' : j < l.length := by simpa using hj
  rw [Nat.zero_add, Lib.bytesWorld_cell w e ⟨l.toArray⟩ j (by simpa [ByteArray.size] using hj')]
  simp [List.getD, hj']
theorem sum_of (l : List UInt8) (c : Nat) (w : World) (ht : Tab w) (hr : 8 < w.heap.size) (hl : l.length ≤ 9223372036854775807) :
    Calls Tryz.prog 188 #[.slice (some ⟨w.heap.size, 0, none⟩) l.length c] (Lib.bytesWorld w 5 ⟨l.toArray⟩) fun e w' => e = .returned (.int .u16 ((Crc.more 0#16 (l.map UInt8.toBitVec)).toNat : Int)) ∧ w' = Lib.bytesWorld w 5 ⟨l.toArray⟩ := by
  have := sum_any (some ⟨w.heap.size, 0, none⟩) c (l.map UInt8.toBitVec) (Lib.bytesWorld w 5 ⟨l.toArray⟩) (ht.below (bytesWorld_below w _ _) (by omega)) (bytesWorld_row w _ l hl)
  rw [List.length_map] at this
  exact this

end Go.Proofs.YtcbncdigejjcpaaGreatDoor.Dc
