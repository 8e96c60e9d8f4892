/- Crc. -/
import Derived.Test.YtbfllifgmlkndaaGreatDoorProg
import Derived.WalkKit
import Derived.WalkSpells
import Derived.WalkLawsBesides
import Derived.Test.YtbfllifgmlkndaaGreatDoorM02
import Derived.Test.YtbfllifgmlkndaaGreatDoorM03
namespace Go.Proofs.YtbfllifgmlkndaaGreatDoor
open Go.RowKit
open Crc


/-- the table lies in memory -/
def Tab (w : World) : Prop := ∀ i, i < 16 → w.cell? ⟨0, i, none⟩ = some (.int .u16 ((tabL.getD i 0#16).toNat : Int))

set_option maxHeartbeats 400000 in
theorem half_core (c h t : Int) (w : World) (hc : 0 ≤ c) (hc' : c ≤ 65535) (hi : 0 ≤ bits BinOp.xor IntKind.u8 (c / 4096) h) (hi' : bits BinOp.xor IntKind.u8 (c / 4096) h < 16)
    (hcell : w.cell? ⟨0, (bits BinOp.xor IntKind.u8 (c / 4096) h).toNat, none⟩ = some (.int .u16 t)) :
    Calls Tryz.prog 96 #[.int .u16 c, .int .u8 h] w fun e w' => e = .returned (.int .u16 (bits BinOp.xor IntKind.u16 (IntKind.u16.wrap (c * 16)) t)) ∧ w' = w := by
  go_enter Tryz.func96, Tryz.ntmps96
  go_wp2
  go_ret
  exact ⟨rfl, rfl⟩

theorem xor16 (a b : BitVec 16) : bits BinOp.xor IntKind.u16 (a.toNat : Int) (b.toNat : Int) = ((a ^^^ b).toNat : Int) := by
  rw [u16_xor_nat _ _ a.isLt b.isLt, BitVec.toNat_xor]
theorem top4 (c : BitVec 16) : ((c.toNat : Int) / 4096) = ((c.extractLsb' 12 4).toNat : Int) := by
  have := c.isLt
  rw [BitVec.extractLsb'_toNat, Nat.shiftRight_eq_div_pow]
  omega
theorem shl4 (c : BitVec 16) : IntKind.u16.wrap ((c.toNat : Int) * 16) = ((c <<< 4).toNat : Int) := by
  rw [IntKind.wrap_u16, BitVec.toNat_shiftLeft, Nat.shiftLeft_eq]
  omega
theorem idx4 (c : BitVec 16) (h : BitVec 4) : bits BinOp.xor IntKind.u8 ((c.toNat : Int) / 4096) (h.toNat : Int) = ((c.extractLsb' 12 4 ^^^ h).toNat : Int) := by
  have h1 := (c.extractLsb' 12 4).isLt
  have h2 := h.isLt
  rw [top4, u8_xor_nat _ _ (by omega) (by omega), BitVec.toNat_xor]

theorem half_any (c : BitVec 16) (h : BitVec 4) (w : World) (ht : Tab w) :
    Calls Tryz.prog 96 #[.int .u16 (c.toNat : Int), .int .u8 (h.toNat : Int)] w fun e w' => e = .returned (.int .u16 ((halfB c h).toNat : Int)) ∧ w' = w := by
  have h1 := c.isLt
  have h2 := h.isLt
  have h3 := (c.extractLsb' 12 4 ^^^ h).isLt
  have hx := idx4 c h
  refine (half_core (c.toNat : Int) (h.toNat : Int) ((tabB (c.extractLsb' 12 4 ^^^ h)).toNat : Int) w (by omega) (by omega) (by omega) (by omega) ?_).mono ?_
  · rw [hx, Int.toNat_natCast]
    exact ht _ h3
  · rintro e w' ⟨rfl, rfl⟩
    refine ⟨?_, rfl⟩
    rw [shl4, xor16]
    rfl

/-- a slice's bytes, read from memory; whatever the address of an empty one -/
def Row (w : World) (a : Option Addr) (l : List (BitVec 8)) : Prop :=
  l.length ≤ 9223372036854775807 ∧ (l ≠ [] → ∃ b off, a = some ⟨b, off, none⟩ ∧ ∀ j, j < l.length → w.cell? ⟨b, off + j, none⟩ = some (.int .u8 ((l.getD j 0#8).toNat : Int)))

theorem hi4 (x : BitVec 8) : ((x.toNat : Int) / 16) = ((x.extractLsb' 4 4).toNat : Int) := by
  have := x.isLt
  rw [BitVec.extractLsb'_toNat, Nat.shiftRight_eq_div_pow]
  omega
theorem lo4 (x : BitVec 8) : bits BinOp.and IntKind.u8 (x.toNat : Int) 15 = ((x.extractLsb' 0 4).toNat : Int) := by
  have := x.isLt
  have e : bits BinOp.and IntKind.u8 (x.toNat : Int) 15 = (x.toNat : Int) % 16 := bits_mask .u8 8 (by decide) wraps_u8 4 (by decide) _ (by omega) (by omega)
  rw [BitVec.extractLsb'_toNat, e]
  simp
theorem take_snoc (l : List (BitVec 8)) (k : Nat) (h : k < l.length) : l.take (k + 1) = l.take k ++ [l.getD k 0#8] := by
  rw [List.take_succ_eq_append_getElem h]
  simp [List.getD, h]
theorem more_snoc (c : BitVec 16) (l : List (BitVec 8)) (k : Nat) (h : k < l.length) : more c (l.take (k + 1)) = Crc.step (more c (l.take k)) (l.getD k 0#8) := by
  rw [take_snoc l k h, more_append]
  rfl

set_option maxHeartbeats 400000 in
theorem more_some (c : BitVec 16) (b off cap : Nat) (l : List (BitVec 8)) (w : World) (ht : Tab w) (hl : l.length ≤ 9223372036854775807)
    (hc : ∀ j, j < l.length → w.cell? ⟨b, off + j, none⟩ = some (.int .u8 ((l.getD j 0#8).toNat : Int))) :
    Calls Tryz.prog 81 #[.int .u16 (c.toNat : Int), .slice (some ⟨b, off, none⟩) l.length cap] w fun e w' => e = .returned (.int .u16 ((more c l).toNat : Int)) ∧ w' = w := by
  have HT := hid ht
  have HC := hid hc
  clear ht hc
  go_enter Tryz.func81, Tryz.ntmps81
  go_wp2
  go_loop [0, 9] (fun d i => ∃ k : Nat, k ≤ l.length ∧ i = .int .i64 k ∧ d = .int .u16 ((more c (l.take k)).toNat : Int)) (fun _ i => l.length - (intOf i).toNat)
  case atStart => exact ⟨0, Nat.zero_le _, rfl, rfl⟩
  case round =>
    obtain ⟨k, hk, rfl, rfl⟩ := hrel
    by_cases hlt : k < l.length
    · have hcell := HC.out k hlt
      have HS := hid (more_snoc c l k hlt)
      generalize hD : more c (l.take k) = D at HS ⊢
      generalize hX : l.getD k 0#8 = X at HS hcell
      have HX := hid (code_step D X)
      have h4 := hi4 X
      have h0 := lo4 X
      have hb := X.isLt
      generalize X.extractLsb' 4 4 = H4 at HX h4
      generalize X.extractLsb' 0 4 = H0 at HX h0
      generalize (X.toNat : Int) = x at hcell h4 h0
      clear hD hX hb
      go_wp2_with (go_at_call 96; refine (half_any _ _ _ HT.out).mono ?_; rintro e w' ⟨rfl, rfl⟩)
      go_round
      case rel => exact ⟨k + 1, by omega, by go_num, by rw [HS.out, HX.out]⟩
      case measure => simp [intOf]; omega
    · go_wp2
      go_ret
      exact ⟨ret_int (by rw [List.take_of_length_le (by omega)]), rfl⟩

theorem more_none (c : BitVec 16) (a : Option Addr) (cap : Nat) (w : World) :
    Calls Tryz.prog 81 #[.int .u16 (c.toNat : Int), .slice a 0 cap] w fun e w' => e = .returned (.int .u16 (c.toNat : Int)) ∧ w' = w := by
  go_enter Tryz.func81, Tryz.ntmps81
  go_wp2
  refine wp_loop_rounds 1 ?_
  rw [rounds_succ]
  go_wp2
  go_ret
  exact ⟨rfl, rfl⟩
/-- More, of whatever bytes -/
theorem more_any (c : BitVec 16) (a : Option Addr) (cap : Nat) (l : List (BitVec 8)) (w : World) (ht : Tab w) (hr : Row w a l) :
    Calls Tryz.prog 81 #[.int .u16 (c.toNat : Int), .slice a l.length cap] w fun e w' => e = .returned (.int .u16 ((more c l).toNat : Int)) ∧ w' = w := by
  by_cases h : l = []
  · subst h
    exact more_none c a cap w
  · obtain ⟨b, off, rfl, hc⟩ := hr.2 h
    exact more_some c b off cap l w ht hr.1 hc
/-- Sum, of whatever bytes -/
theorem sum_any (a : Option Addr) (cap : Nat) (l : List (BitVec 8)) (w : World) (ht : Tab w) (hr : Row w a l) :
    Calls Tryz.prog 66 #[.slice a l.length cap] w fun e w' => e = .returned (.int .u16 ((more 0#16 l).toNat : Int)) ∧ w' = w := by
  have HT := hid ht
  have HR := hid hr
  clear ht hr
  go_enter Tryz.func66, Tryz.ntmps66
  go_wp2_with (go_at_call 81; refine (more_any 0#16 _ _ l _ HT.out HR.out).mono ?_; rintro e w' ⟨rfl, rfl⟩)
  go_ret
  exact ⟨rfl, rfl⟩

end Go.Proofs.YtbfllifgmlkndaaGreatDoor
