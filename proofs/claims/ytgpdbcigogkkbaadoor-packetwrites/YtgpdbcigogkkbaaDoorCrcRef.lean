/- What the document's sum, bit by bit, answers: the same plain function. -/
import Derived.Test.YtgpdbcigogkkbaaDoorCrc
namespace Go.Proofs.YtgpdbcigogkkbaaDoor
open Go.RowKit
open Crc

theorem start16 (d : BitVec 16) (x : BitVec 8) : bits BinOp.xor IntKind.u16 (d.toNat : Int) ((x.toNat : Int) * 256) = ((d ^^^ (x.setWidth 16 * 256#16)).toNat : Int) := by
  have h := x.isLt
  have e : ((x.toNat : Int) * 256) = ((x.setWidth 16 * 256#16).toNat : Int) := by
    rw [BitVec.toNat_mul, BitVec.toNat_setWidth]
    simp
    omega
  rw [e, xor16]
theorem dbl (e : BitVec 16) : IntKind.u16.wrap ((e.toNat : Int) * 2) = ((e * 2#16).toNat : Int) := by
  rw [IntKind.wrap_u16, BitVec.toNat_mul]
  simp
theorem dbl_hi (e : BitVec 16) (h : 32768 ≤ e.toNat) : ((zstep e).toNat : Int) = bits BinOp.xor IntKind.u16 (IntKind.u16.wrap ((e.toNat : Int) * 2)) 4129 := by
  rw [dbl, zstep, if_pos h]
  exact (xor16 _ 4129#16).symm
theorem dbl_lo (e : BitVec 16) (h : ¬ 32768 ≤ e.toNat) : ((zstep e).toNat : Int) = (e.toNat : Int) * 2 := by
  have := e.isLt
  rw [zstep, if_neg h, ← dbl, IntKind.wrap_u16]
  omega

set_option maxHeartbeats 400000 in
theorem rmore_some (c : BitVec 16) (b off cap : Nat) (l : List (BitVec 8)) (w : World) (hl : l.length ≤ 9223372036854775807)
    (hc : ∀ j, j < l.length → w.cell? ⟨b, off + j, none⟩ = some (.int .u8 ((l.getD j 0#8).toNat : Int))) :
    Calls Tryd.prog 33 #[.int .u16 (c.toNat : Int), .slice (some ⟨b, off, none⟩) l.length cap] w fun e w' => e = .returned (.int .u16 ((more c l).toNat : Int)) ∧ w' = w := by
  have HC := hid hc
  clear hc
  go_enter Tryd.func33, Tryd.ntmps33
  go_wp2
  go_loop [0, 5, 6] (fun d i _ => ∃ k : Nat, k ≤ l.length ∧ i = .int .i64 k ∧ d = .int .u16 ((more c (l.take k)).toNat : Int)) (fun _ i _ => l.length - (intOf i).toNat)
  case atStart => exact ⟨0, Nat.zero_le _, rfl, rfl⟩
  case round =>
    obtain ⟨k, hk, rfl, rfl⟩ := hrel
    by_cases hlt : k < l.length
    · have hcell := HC.out k hlt
      have HS := hid (more_snoc c l k hlt)
      generalize hD : more c (l.take k) = D at HS ⊢
      generalize hX : l.getD k 0#8 = X at HS hcell
      have hb := X.isLt
      have hx0 : (0 : Int) ≤ (X.toNat : Int) := by omega
      have hx1 : (X.toNat : Int) ≤ 255 := by omega
      generalize hx : (X.toNat : Int) = x at hcell hx0 hx1
      have HX := hid hx
      clear hD hX hb hx
      go_wp2
      go_loop [0, 6] (fun d i => ∃ (m : Nat) (E : BitVec 16), m ≤ 8 ∧ i = .int .i64 m ∧ d = .int .u16 (E.toNat : Int) ∧ zsteps (8 - m) E = Crc.step D X) (fun _ i => 8 - (intOf i).toNat)
      case atStart => exact ⟨0, D ^^^ (X.setWidth 16 * 256#16), by omega, rfl, by rw [← HX.out, start16], doc_step D X⟩
      case round =>
        obtain ⟨m, E, hm, rfl, rfl, hz⟩ := hrel
        have HZ := hid hz
        clear hz
        have hE := E.isLt
        by_cases hm8 : m < 8
        · by_cases hhi : 32768 ≤ (E.toNat : Int)
          · have HE := hid (dbl_hi E (by omega))
            generalize he : (E.toNat : Int) = e at HE hhi
            have he1 : e ≤ 65535 := by omega
            clear hE he
            go_wp2
            go_round
            case rel => exact ⟨m + 1, zstep E, by omega, by go_num, by rw [HE.out], by rw [← HZ.out, show 8 - m = (8 - (m + 1)) + 1 by omega]; rfl⟩
            case measure => simp [intOf]; omega
          · have HE := hid (dbl_lo E (by omega))
            generalize he : (E.toNat : Int) = e at HE hhi
            have he0 : 0 ≤ e := by omega
            clear hE he
            go_wp2
            go_round
            case rel => exact ⟨m + 1, zstep E, by omega, by go_num, by rw [HE.out], by rw [← HZ.out, show 8 - m = (8 - (m + 1)) + 1 by omega]; rfl⟩
            case measure => simp [intOf]; omega
        · have hm' : m = 8 := by omega
          subst hm'
          have HZ' : Hid (E = Crc.step D X) := HZ.out
          clear hE
          go_wp2
          go_round
          case rel => exact ⟨k + 1, by omega, by go_num, by rw [HS.out, ← HZ'.out]⟩
          case measure => simp [intOf]; omega
    · go_wp2
      go_ret
      exact ⟨ret_int (by rw [List.take_of_length_le (by omega)]), rfl⟩

theorem rmore_none (c : BitVec 16) (a : Option Addr) (cap : Nat) (w : World) :
    Calls Tryd.prog 33 #[.int .u16 (c.toNat : Int), .slice a 0 cap] w fun e w' => e = .returned (.int .u16 (c.toNat : Int)) ∧ w' = w := by
  go_enter Tryd.func33, Tryd.ntmps33
  go_wp2
  refine wp_loop_rounds 1 ?_
  rw [rounds_succ]
  go_wp2
  go_ret
  exact ⟨rfl, rfl⟩
theorem rmore_any (c : BitVec 16) (a : Option Addr) (cap : Nat) (l : List (BitVec 8)) (w : World) (hr : Row w a l) :
    Calls Tryd.prog 33 #[.int .u16 (c.toNat : Int), .slice a l.length cap] w fun e w' => e = .returned (.int .u16 ((more c l).toNat : Int)) ∧ w' = w := by
  by_cases h : l = []
  · subst h
    exact rmore_none c a cap w
  · obtain ⟨b, off, rfl, hc⟩ := hr.2 h
    exact rmore_some c b off cap l w hr.1 hc
theorem rsum_any (a : Option Addr) (cap : Nat) (l : List (BitVec 8)) (w : World) (hr : Row w a l) :
    Calls Tryd.prog 21 #[.slice a l.length cap] w fun e w' => e = .returned (.int .u16 ((more 0#16 l).toNat : Int)) ∧ w' = w := by
  have HR := hid hr
  clear hr
  go_enter Tryd.func21, Tryd.ntmps21
  go_wp2_with (go_at_call 33; refine (rmore_any 0#16 _ _ l _ HR.out).mono ?_; rintro e w' ⟨rfl, rfl⟩)
  go_ret
  exact ⟨rfl, rfl⟩

end Go.Proofs.YtgpdbcigogkkbaaDoor
