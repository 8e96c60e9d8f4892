/- ExP1, ReSame, TbRKeys, DkPush, DkPop, DkTrim, DkAt, NuDigits, Laid. -/
import Derived.Test.YtcbncdigejjcpaaGreatDoorM23
import Derived.Deep.QuietTactic
import Derived.Lib.QuietBelow
import Derived.Test.YtcbncdigejjcpaaGreatDoorM10
import Derived.Deep.RegionLaw
import Derived.Lib.ItoaLen
import Derived.Test.YtcbncdigejjcpaaGreatDoorM07
import Derived.Test.YtcbncdigejjcpaaGreatDoorRows
import Derived.Lib.LaidU8T
import Derived.Lib.LaidTab
import Derived.Stop.LaidErr
import Derived.MakeChecks
import Derived.LaidLaws
import Derived.Test.YtcbncdigejjcpaaGreatDoorM18
namespace Go.Proofs.YtcbncdigejjcpaaGreatDoor.Dk
open Go.RowKit
theorem _root_.Go.Proofs.YtcbncdigejjcpaaGreatDoor.Keep.own {b : Nat} {w w' : World} (h : Keep (But b) w w') (i : Nat) (v : Value) : Keep (But b) w (w'.setCell ⟨b, i, none⟩ v) := keep_setCell h b i v (fun h => h rfl)
theorem _root_.Go.Proofs.YtcbncdigejjcpaaGreatDoor.Keep.drew {P : Nat → Prop} {w w' : World} (h : Keep P w w') : Keep P w w'.drew := ⟨h.os, h.tape, h.output, h.size, h.block⟩

set_option maxHeartbeats 2000000 in
set_option maxRecDepth 100000 in
/-- a push ahead of the first -/
theorem push_front (b : Nat) (L : Row) (s : List UInt8) (w : World) (h : Dq w b L) (hful : L.length < 256) : Calls Tryz.prog 87 #[ptr b, .bool true, txt s] w fun e w' => e = .returned (.bool true) ∧ Hid (Dq w' b (s :: L) ∧ Keep (But b) w w') := by
  obtain ⟨cs, f, hc, hsz, h1, h2, hr⟩ := h
  have c1 : w.cell? ⟨b, 256, none⟩ = some (.int .i64 f) := by rw [dq_cells hc]; exact h1
  have c2 : w.cell? ⟨b, 257, none⟩ = some (.int .i64 L.length) := by rw [dq_cells hc]; exact h2
  have hz : ¬ (L.length : Int) = 256 := by omega
  have hz2 : (L.length : Int) < 256 := by omega
  have f1 := frozen_of_row w b 256 _ _ hc
  have f2 := frozen_of_row w b 257 _ _ hc
  have hf := hr.beg
  obtain ⟨k, hk⟩ : ∃ k, k = (f + 255) % 256 := ⟨_, rfl⟩
  have HA := hid (where_any b f k (-1) w c1 hf (by decide) (by decide) (by omega) (by omega))
  have HR := hid (((hr.aside 256 (by decide) (.int .i64 ((f + 255) % 256 : Nat))).front (by omega) s).aside 257 (by decide) (.int .i64 (L.length + 1)))
  rw [← hk] at HR
  have hkz : (k : Int) < 256 := by omega
  have hkl : k < 256 := by omega
  obtain ⟨t, ht⟩ := hr.all k hkl
  have c3 : w.cell? ⟨b, k, none⟩ = some (txt t) := by rw [dq_cells hc]; exact ht
  have f3 := frozen_of_row w b k _ _ hc
  have hne : ¬ k = 256 := by omega
  have HC := hid hc
  have HZ := hid hsz
  clear hk hc h1 h2 hr hsz ht hf
  go_enter Tryz.func87, Tryz.ntmps87
  go_wp2_with fail
  refine HA.out.mono ?_; rintro e w1 ⟨rfl, rfl⟩
  go_wp2_with fail
  go_region
  all_goals go_wp2_with fail
  all_goals go_ret
  all_goals refine ⟨rfl, ⟨_, k, heap_setCell_same _ b 257 _ _ _ (heap_setCell_same _ b k _ _ _ (heap_setCell_same _ b 256 _ _ _ HC.out)), ?_, ?_, ?_, ?_⟩, ?_⟩
  · simpa using HZ.out
  · rw [Array.getElem?_setIfInBounds_ne (by decide), Array.getElem?_setIfInBounds_ne (by omega), Array.getElem?_setIfInBounds_self_of_lt (by rw [HZ.out]; decide)]
  · rw [Array.getElem?_setIfInBounds_self_of_lt (by simp [HZ.out])]
    simp
  · exact HR.out
  · exact ((((Keep.refl (But b) w1).own 256 _).own k _).own 257 _).drew
set_option maxHeartbeats 2000000 in
set_option maxRecDepth 100000 in
/-- a push behind the last -/
theorem push_back (b : Nat) (L : Row) (s : List UInt8) (w : World) (h : Dq w b L) (hful : L.length < 256) : Calls Tryz.prog 87 #[ptr b, .bool false, txt s] w fun e w' => e = .returned (.bool true) ∧ Hid (Dq w' b (L ++ [s]) ∧ Keep (But b) w w') := by
  obtain ⟨cs, f, hc, hsz, h1, h2, hr⟩ := h
  have c1 : w.cell? ⟨b, 256, none⟩ = some (.int .i64 f) := by rw [dq_cells hc]; exact h1
  have c2 : w.cell? ⟨b, 257, none⟩ = some (.int .i64 L.length) := by rw [dq_cells hc]; exact h2
  have hz : ¬ (L.length : Int) = 256 := by omega
  have hz2 : (L.length : Int) < 256 := by omega
  have f1 := frozen_of_row w b 256 _ _ hc
  have f2 := frozen_of_row w b 257 _ _ hc
  have hf := hr.beg
  obtain ⟨k, hk⟩ : ∃ k, k = (f + L.length) % 256 := ⟨_, rfl⟩
  have HA := hid (fun w' c1 => where_any b f k L.length w' c1 hf (by omega) (by omega) (by omega) (by omega))
  have HR := hid ((hr.back (by omega) s).aside 257 (by decide) (.int .i64 (L.length + 1)))
  rw [← hk] at HR
  have hkz : (k : Int) < 256 := by omega
  have hkl : k < 256 := by omega
  obtain ⟨t, ht⟩ := hr.all k hkl
  have c3 : w.cell? ⟨b, k, none⟩ = some (txt t) := by rw [dq_cells hc]; exact ht
  have f3 := frozen_of_row w b k _ _ hc
  have hne : ¬ k = 256 := by omega
  have hne2 : ¬ k = 257 := by omega
  have HC := hid hc
  have HZ := hid hsz
  have H1 := hid h1
  clear hk hc h1 hr hsz ht hf
  go_enter Tryz.func87, Tryz.ntmps87
  go_wp2_with fail
  go_region_law (go_simp; go_at_call 162; refine (HA.out _ (by simpa using c1)).mono ?_; rintro e w1 ⟨rfl, rfl⟩)
  all_goals go_wp2_with fail
  all_goals go_ret
  all_goals refine ⟨rfl, ⟨_, f, heap_setCell_same _ b 257 _ _ _ (heap_setCell_same _ b k _ _ _ HC.out), ?_, ?_, ?_, ?_⟩, ?_⟩
  · simpa using HZ.out
  · rw [Array.getElem?_setIfInBounds_ne (by decide), Array.getElem?_setIfInBounds_ne hne]
    exact H1.out
  · rw [Array.getElem?_setIfInBounds_self_of_lt (by simp [HZ.out])]
    simp
  · exact HR.out
  · exact ((((Keep.refl (But b) w).own k _).own 257 _).drew)
set_option maxHeartbeats 2000000 in
set_option maxRecDepth 100000 in
/-- it is full -/
theorem push_full (b : Nat) (L : Row) (f : Bool) (s : List UInt8) (w : World) (h : Dq w b L) (hful : L.length = 256) : Calls Tryz.prog 87 #[ptr b, .bool f, txt s] w fun e w' => e = .returned (.bool false) ∧ w' = w := by
  obtain ⟨cs, g, hc, _, _, h2, _⟩ := h
  have c2 : w.cell? ⟨b, 257, none⟩ = some (.int .i64 256) := by rw [dq_cells hc, h2, hful]; rfl
  clear hc h2
  go_enter Tryz.func87, Tryz.ntmps87
  go_wp2
  go_ret
  exact ⟨rfl, rfl⟩
/-- Push -/
theorem push_any (b : Nat) (L : Row) (f : Bool) (s : List UInt8) (w : World) (h : Dq w b L) : Calls Tryz.prog 87 #[ptr b, .bool f, txt s] w fun e w' => e = .returned (.bool (pushB L)) ∧ Hid (Dq w' b (pushL L f s) ∧ Keep (But b) w w') := by
  by_cases hl : L.length < 256
  · rw [show pushB L = true from decide_eq_true hl, show pushL L f s = if f then s :: L else L ++ [s] from if_neg (by omega)]
    cases f
    · exact push_back b L s w h hl
    · exact push_front b L s w h hl
  · have hn : L.length = 256 := by obtain ⟨_, _, _, _, _, _, hr⟩ := h; have := hr.len; omega
    rw [show pushB L = false from decide_eq_false hl, show pushL L f s = L from if_pos (by omega)]
    exact (push_full b L f s w h hn).mono fun e w' ⟨he, hw⟩ => ⟨he, by subst hw; exact ⟨h, Keep.refl _ _⟩⟩

end Go.Proofs.YtcbncdigejjcpaaGreatDoor.Dk

namespace Go.Proofs.YtcbncdigejjcpaaGreatDoor.Num
open Go.RowKit

theorem ret_str {a b : List UInt8} (h : a = b) : Ending.returned (.string ⟨a.toArray⟩) = .returned (.string ⟨b.toArray⟩) := by rw [h]
theorem conv_one (b : Nat) (c : UInt8) (W : World) (h : W.cell? ⟨b, 0, none⟩ = some (.int .u8 (c.toNat : Int))) : (convert 104 9 (.slice (some ⟨b, 0, none⟩) 1 1)).run Tryz.prog W = .ok (.string ⟨#[c]⟩) W :=
  run_convert_bytes_back (P := Tryz.prog) W 104 9 5 ⟨b, 0, none⟩ 1 [c] Tryz.underlying104 Tryz.underlying5 Tryz.underlying9 (fun j hj => by
    have : j = 0 := by simp at hj; omega
    subst this
    rw [Go.WideShapes.add_plain]
    simpa using h)
theorem digit_int (n : Nat) (h : n < 10) : ((UInt8.ofNat (48 + n)).toNat : Int) = 48 + (n : Int) := by
  rw [UInt8.toNat_ofNat']; omega
theorem itoa_len (v : Int) (h0 : -9223372036854775808 ≤ v) (h1 : v ≤ 9223372036854775807) : (Lib.itoa v).length ≤ 21 := Lib.itoa_length_le v h0 h1
theorem app_ba (a b : List UInt8) : (⟨a.toArray⟩ ++ ⟨b.toArray⟩ : ByteArray) = ⟨(a ++ b).toArray⟩ := by
  apply ByteArray.ext
  simp
theorem tmod_neg (m : Nat) : (-(m : Int)).tmod 10 = -((m % 10 : Nat) : Int) := by
  rw [Int.neg_tmod, Int.tmod_eq_emod_of_nonneg (by omega)]; omega
theorem tdiv_neg (m : Nat) : (-(m : Int)).tdiv 10 = -((m / 10 : Nat) : Int) := by
  rw [Int.neg_tdiv, Int.tdiv_eq_ediv_of_nonneg (by omega)]; omega
set_option maxHeartbeats 2000000 in
set_option maxRecDepth 100000 in
theorem below_go (k : Nat) : ∀ (m : Nat) (z : Int) (w : World), z = -(m : Int) → m < 10 ^ (k + 1) → m ≤ 9223372036854775808 →
    Calls Tryz.prog 40 #[.int .i64 z] w fun e w' => e = .returned (.string ⟨(dec m).toArray⟩) ∧ Below w.heap.size w w' := by
  have base : ∀ (m : Nat) (z : Int) (w : World), z = -(m : Int) → m < 10 → Calls Tryz.prog 40 #[.int .i64 z] w fun e w' => e = .returned (.string ⟨(dec m).toArray⟩) ∧ Below w.heap.size w w' := by
    intro m z w hz h
    obtain ⟨c, hc⟩ : ∃ c, c = UInt8.ofNat (48 + m) := ⟨_, rfl⟩
    have t1 : z.tmod 10 = z := by rw [hz, tmod_neg]; omega
    obtain ⟨D, hD⟩ : ∃ D : Int, D = 48 - z := ⟨_, rfl⟩
    have hDc : D = (c.toNat : Int) := by rw [hD, hc, digit_int m h]; omega
    have t2 : 48 - z = D := hD.symm
    have t3 : IntKind.u8.wrap D = D := by rw [IntKind.wrap_u8]; omega
    have hcv := conv_one w.heap.size c (w.alloc (.cells #[.int .u8 D] 5)) (by rw [hDc]; simp)
    have HD : Hid ([c] = dec m) := by unfold Hid; rw [hc]; exact (dec_small h).symm
    have z1 : ¬ z ≤ -10 := by omega
    have z2 : -10 < z := by omega
    have z3 : z ≤ 0 := by omega
    clear hc hD hDc hz
    go_enter Tryz.func40, Tryz.ntmps40
    go_wp2_with fail
    go_ret
    exact ⟨ret_str HD.out, below_alloc _ _⟩
  induction k with
  | zero => exact fun m z w hz h _ => base m z w hz (by simpa using h)
  | succ k ih =>
    intro m z w hz h hm
    by_cases h10 : m < 10
    · exact base m z w hz h10
    · obtain ⟨c, hc⟩ : ∃ c, c = UInt8.ofNat (48 + m % 10) := ⟨_, rfl⟩
      obtain ⟨q, hq⟩ : ∃ q, q = m / 10 := ⟨_, rfl⟩
      obtain ⟨R, hR⟩ : ∃ R : Int, R = -((m % 10 : Nat) : Int) := ⟨_, rfl⟩
      obtain ⟨Q, hQ⟩ : ∃ Q : Int, Q = -(q : Int) := ⟨_, rfl⟩
      have t1 : z.tmod 10 = R := by rw [hz, tmod_neg, hR]
      have t4 : z.tdiv 10 = Q := by rw [hz, tdiv_neg, hQ, hq]
      obtain ⟨D, hD⟩ : ∃ D : Int, D = 48 - R := ⟨_, rfl⟩
      have hDc : D = (c.toNat : Int) := by rw [hD, hc, digit_int _ (by omega)]; omega
      have t2 : 48 - R = D := hD.symm
      have t3 : IntKind.u8.wrap D = D := by rw [IntKind.wrap_u8]; omega
      have hcv := conv_one w.heap.size c (w.alloc (.cells #[.int .u8 D] 5)) (by rw [hDc]; simp)
      have HI := hid (ih q Q (w.alloc (.cells #[.int .u8 D] 5)) hQ (by rw [Nat.pow_succ] at h; omega) (by omega))
      have hcat : (⟨(dec q).toArray⟩ ++ ⟨#[c]⟩ : ByteArray) = ⟨(dec m).toArray⟩ := by
        rw [show (⟨#[c]⟩ : ByteArray) = ⟨[c].toArray⟩ from rfl, app_ba, dec_big h10, ← hq, ← hc]
      have z1 : z ≤ -10 := by omega
      have r1 : -9 ≤ R := by omega
      have r2 : R ≤ 0 := by omega
      have q1 : Q ≤ 0 := by omega
      have q2 : -922337203685477580 ≤ Q := by omega
      have hDl : (dec q).length ≤ 30 := by
        have := itoa_len (q : Nat) (by omega) (by omega)
        rw [Lib.itoa_nonneg] at this
        unfold dec
        omega
      generalize dec q = DQ at HI hcat hDl
      generalize dec m = DM at hcat ⊢
      clear hc hD hDc hz hR hQ hq ih base h h10
      go_enter Tryz.func40, Tryz.ntmps40
      go_wp2_with fail
      refine HI.out.mono ?_; rintro e w2 ⟨rfl, hb2⟩
      have HB := hid ((below_alloc w _).trans (hb2.mono (by simp)))
      clear hb2 HI
      go_wp2_with fail
      go_ret
      exact ⟨rfl, HB.out⟩
set_option maxHeartbeats 2000000 in
set_option maxRecDepth 100000 in
/-- ref Digits -/
theorem digits_any (n : Int) (w : World) (h0 : -9223372036854775808 ≤ n) (h1 : n ≤ 9223372036854775807) :
    Calls Tryz.prog 24 #[.int .i64 n] w fun e w' => e = .returned (.string ⟨(Lib.itoa n).toArray⟩) ∧ Below w.heap.size w w' := by
  by_cases hn : n < 0
  · obtain ⟨m, hm⟩ : ∃ m : Nat, n = -(m : Int) := ⟨n.natAbs, by omega⟩
    have HI := hid (below_go 19 m n w hm (by omega) (by omega))
    have hcat : (⟨#[45]⟩ ++ ⟨(dec m).toArray⟩ : ByteArray) = ⟨(Lib.itoa n).toArray⟩ := by
      rw [show (⟨#[45]⟩ : ByteArray) = ⟨[45].toArray⟩ from rfl, app_ba, hm, Lib.itoa_neg m (by omega)]; rfl
    have hDl : (dec m).length ≤ 30 := by
      have := itoa_len n h0 h1
      rw [hm, Lib.itoa_neg m (by omega)] at this
      simp at this
      unfold dec
      omega
    generalize Lib.itoa n = T at hcat ⊢
    generalize dec m = DM at HI hcat hDl
    clear hm
    go_enter Tryz.func24, Tryz.ntmps24
    go_wp2_with fail
    refine HI.out.mono ?_; rintro e w2 ⟨rfl, hb2⟩
    have HB := hid hb2
    clear hb2
    go_wp2_with fail
    go_ret
    exact ⟨rfl, HB.out⟩
  · obtain ⟨m, rfl⟩ := Int.eq_ofNat_of_zero_le (show 0 ≤ n by omega)
    have HI := hid (below_go 19 m (-(m : Int)) w rfl (by omega) (by omega))
    rw [Lib.itoa_nonneg]
    go_enter Tryz.func24, Tryz.ntmps24
    go_wp2_with fail
    refine HI.out.mono ?_; rintro e w2 ⟨rfl, hb2⟩
    have HB := hid hb2
    clear hb2
    go_wp2_with fail
    go_ret
    exact ⟨rfl, HB.out⟩

end Go.Proofs.YtcbncdigejjcpaaGreatDoor.Num

namespace Go.Proofs.YtcbncdigejjcpaaGreatDoor
open Go.RowKit

/-- the listed variables, in the rows' order -/
def listed : List (String × DataW Unit) := [("marshalyard/crc.halfSums", Rows.laid_marshalyard_crc_halfSums), ("math/bits.deBruijn32tab", Rows.laid_math_bits_deBruijn32tab), ("math/bits.deBruijn64tab", Rows.laid_math_bits_deBruijn64tab), ("internal/strconv.uint64pow10", Rows.laid_internal_strconv_uint64pow10), ("unicode/utf8.acceptRanges", Rows.laid_unicode_utf8_acceptRanges), ("strconv.ErrRange", Rows.laid_strconv_ErrRange), ("strconv.ErrSyntax", Rows.laid_strconv_ErrSyntax), ("unicode/utf8.first", Rows.laid_unicode_utf8_first)]
theorem accept_eq : (Rows.laid_unicode_utf8_acceptRanges : DataW Unit) = Lib.acceptData := by kernel_rfl
theorem first_eq : Rows.laid_unicode_utf8_first = Lib.firstData := by kernel_rfl
def ren : Go.Shelf.Ren := ⟨fun n => n, fun | 5 => 5 | 119 => 276 | 138 => 278 | 139 => 279 | n => n, fun | 3 => 4 | 4 => 5 | n => n⟩
theorem u8types : U8Types Tryz.prog ren := ⟨Tryz.underlying5, Tryz.underlying276, Tryz.underlying278, Tryz.underlying279⟩
theorem u8extra : U8Extra Tryz.prog ren := ⟨by kernel_rfl, by kernel_rfl, by kernel_rfl, by kernel_rfl, by kernel_rfl, by kernel_rfl, by kernel_rfl⟩
theorem gTab : Tryz.prog.globalNamed "marshalyard/crc.halfSums" = some 3 := by kernel_rfl
theorem gTabType : (Tryz.prog.globals[3]?).map (·.type) = some 274 := by kernel_rfl
theorem cellsTab : Tryz.prog.cellsOf 274 = 16 := by kernel_rfl
theorem cells16 : Tryz.prog.cellsOf 196 = 1 := by kernel_rfl
def sums : List Int := [0, 4129, 8258, 12387, 16516, 20645, 24774, 28903, 33032, 37161, 41290, 45419, 49548, 53677, 57806, 61935]
theorem sums_eq : ∀ i : Fin 16, sums.getD i.val 0 = ((Crc.tabL.getD i.val 0#16).toNat : Int) := by decide +kernel
theorem gBr : Tryz.prog.globalNamed "math/bits.deBruijn64tab" = some 8 := by kernel_rfl
theorem gBrType : (Tryz.prog.globals[8]?).map (·.type) = some 291 := by kernel_rfl
theorem gPowType : (Tryz.prog.globals[6]?).map (·.type) = some 286 := by kernel_rfl
theorem gSynType : (Tryz.prog.globals[1]?).map (·.type) = some 187 := by kernel_rfl
theorem gRanType : (Tryz.prog.globals[2]?).map (·.type) = some 187 := by kernel_rfl
theorem cellsBr : Tryz.prog.cellsOf 291 = 64 := by kernel_rfl
theorem cellsPow : Tryz.prog.cellsOf 286 = 20 := by kernel_rfl
theorem cells8 : Tryz.prog.cellsOf 5 = 1 := by kernel_rfl
theorem cells64 : Tryz.prog.cellsOf 210 = 1 := by kernel_rfl
theorem cellsES : Tryz.prog.cellsOf 284 = 1 := by kernel_rfl
theorem cellsStr : Tryz.prog.cellsOf 9 = 1 := by kernel_rfl
theorem starES : "*" ++ "errors.errorString" = "*errors.errorString" := by decide
theorem rowES : ∀ u, Tryz.prog.typeName? 3 u = some "*errors.errorString" → u = 282 := fun u h =>
  typeName_ptr_named (nm := "errors.errorString") (by rw [starES]; kernel_rfl) (by kernel_rfl) (by decide) u (by rw [starES]; exact h)
def bru : List Int := [0, 1, 56, 2, 57, 49, 28, 3, 61, 58, 42, 50, 38, 29, 17, 4, 62, 47, 59, 36, 45, 43, 51, 22, 53, 39, 33, 30, 24, 18, 12, 5, 63, 55, 48, 27, 60, 41, 37, 16, 46, 35, 44, 21, 52, 32, 23, 11, 54, 26, 40, 15, 34, 20, 31, 10, 25, 14, 19, 9, 13, 8, 7, 6]
/-- all that the calls read -/
theorem env_of {W : World} (hL : laidMetH Tryz.prog listed W) : Tab W := by
  have h : laidMet Tryz.prog listed W := (MakeChecks.laidMetH_plain _ _ _ (by kernel_rfl)) ▸ hL
  have t1 : Lib.TabIs Tryz.prog W "marshalyard/crc.halfSums" .u16 sums := Lib.tabIs_of_head gTab gTabType Tryz.underlying274 Tryz.underlying196 cells16 cellsTab h
  have t2 : Lib.TabIs Tryz.prog W "math/bits.deBruijn64tab" .u8 bru := Lib.tabIs_of_head gBr gBrType Tryz.underlying291 Tryz.underlying5 cells8 cellsBr h.tail.tail
  have t3 : Lib.TabIs Tryz.prog W "internal/strconv.uint64pow10" .u64 Lib.pow10Tab := Lib.tabIs_of_head gPow gPowType Tryz.underlying286 Tryz.underlying210 cells64 cellsPow h.tail.tail.tail
  obtain ⟨a0, s0, hv0, -, -, -⟩ := laid_sentinel h.tail.tail.tail.tail.tail gRan gRanType Tryz.underlying187 rowES Tryz.underlying282 Tryz.underlying284 rfl rfl Tryz.underlying9 cellsES cellsStr
  obtain ⟨a1, s1, hv1, -, -, -⟩ := laid_sentinel h.tail.tail.tail.tail.tail.tail gSyn gSynType Tryz.underlying187 rowES Tryz.underlying282 Tryz.underlying284 rfl rfl Tryz.underlying9 cellsES cellsStr
  have hr := block_lt_of_cell (t2.cell gBr 0 (by decide))
  have hu : Lib.Utf8Tabs 4 5 W := by
    unfold listed at h
    rw [accept_eq, first_eq] at h
    exact utf8Tabs_of_readsT u8types u8extra (Lib.laidMet.reads h (.tail _ (.tail _ (.tail _ (.tail _ (.tail _ (.tail _ (.tail _ (.head _))))))))) (Lib.laidMet.reads h (.tail _ (.tail _ (.tail _ (.tail _ (.head _))))))
  refine ⟨fun i hi => ?_, hr, t3, hu, ⟨_, _, hv1⟩, ⟨_, _, hv0⟩⟩
  rw [t1.cell gTab i hi]
  exact congrArg (fun z => some (Value.int .u16 z)) (sums_eq ⟨i, hi⟩)
theorem tab_lt {W : World} (h : Tab W) : 8 < W.heap.size := h.room
def synS : ByteArray := { data := #[105, 110, 118, 97, 108, 105, 100, 32, 115, 121, 110, 116, 97, 120] }
def rngS : ByteArray := { data := #[118, 97, 108, 117, 101, 32, 111, 117, 116, 32, 111, 102, 32, 114, 97, 110, 103, 101] }
def bru32 : List Int := [0, 1, 28, 2, 29, 14, 24, 3, 30, 22, 20, 15, 25, 17, 4, 8, 31, 27, 13, 23, 21, 19, 16, 7, 26, 12, 18, 6, 11, 5, 10, 9]
/-- so many blocks has the settled world -/
def low (P : Program) : Nat := (World.holding P default ⟨#[], #[], []⟩).heap.size
def fillOf (cs : Array Value) : Obj → Obj
  | .cells _ t frozen => .cells cs t frozen
  | o => o
def accCells : List Value := (List.range 16).flatMap fun i => [.int .u8 (Lib.accLo i : Int), .int .u8 (Lib.accHi i : Int)]
/-- a world for the witness: the settled one, each listed variable holding what its initialiser lays -/
def laidWorld (P : Program) (os : Os) : World :=
  { World.holding P os ⟨#[.cells #[.string synS] 284, .cells #[.string rngS] 284], #[], []⟩ with
    heap := ((((((((World.holding P os ⟨#[.cells #[.string synS] 284, .cells #[.string rngS] 284], #[], []⟩).heap.modify 6 (fillOf (Lib.pow10Tab.map (Value.int .u64)).toArray)).modify 1 (fillOf #[.iface 282 (.pointer (some ⟨low P, 0, none⟩))])).modify 2 (fillOf #[.iface 282 (.pointer (some ⟨low P + 1, 0, none⟩))])).modify 7 (fillOf (bru32.map (Value.int .u8)).toArray)).modify 8 (fillOf (bru.map (Value.int .u8)).toArray)).modify 4 (fillOf (Lib.firstTab.map (Value.int .u8)).toArray)).modify 5 (fillOf accCells.toArray)).modify 3 (fillOf (sums.map (Value.int .u16)).toArray) }
theorem laid_met (os : Os) (args : Array Value) : laidMet Tryz.prog listed ((laidWorld Tryz.prog os).forCall (fun _ _ => 0) ⟨#[], args, []⟩).memory :=
  laidMet_of_run' 8 (by kernel_rfl) (by kernel_rfl)

end Go.Proofs.YtcbncdigejjcpaaGreatDoor
