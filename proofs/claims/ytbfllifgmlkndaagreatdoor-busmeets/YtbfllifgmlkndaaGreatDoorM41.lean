/- BuFew, BuNet, LaidB, OpenN. -/
import Derived.Test.YtbfllifgmlkndaaGreatDoorM38
import Derived.Test.YtbfllifgmlkndaaGreatDoorM17
import Derived.Test.YtbfllifgmlkndaaGreatDoorM19
import Derived.Test.YtbfllifgmlkndaaGreatDoorRows
import Derived.Lib.LaidTab
import Derived.Stop.LaidErr
import Derived.MakeChecks
import Derived.LaidLaws
import Derived.Test.YtbfllifgmlkndaaGreatDoorM14
import Derived.Test.YtbfllifgmlkndaaGreatDoorM15
import Derived.Deep.Slices
import Derived.ChangeArms
import Derived.ProofKit
import Derived.OpenShut
namespace Go.Proofs.YtbfllifgmlkndaaGreatDoor
open Go.RowKit
open Slot

/-- a call of the law's script -/
structure OpB where
  kind : Int
  n : Int
  slot : Int
  least : Nat
  s : Bs
def opbCells (o : OpB) : Array Value := #[.int .i64 o.kind, .int .i64 o.n, .int .i64 o.slot, .int .u64 (o.least : Int), .string ⟨o.s.toArray⟩]
/-- a row of calls that may be read -/
def OpsB (w : World) (a : Option Addr) (L : List OpB) : Prop := L ≠ [] → ∃ b o, a = some ⟨b, o, none⟩ ∧ b < w.heap.size ∧ ∀ j (h : j < L.length), w.rangeAt b (o + j * 5) (opbCells L[j]).toList
theorem OpsB.below {w w' : World} {n : Nat} {a : Option Addr} {L : List OpB} (h : OpsB w a L) (hb : Below n w w') (hn : w.heap.size ≤ n) : OpsB w' a L := fun hne => by
  obtain ⟨b, o, rfl, h1, h2⟩ := h hne
  refine ⟨b, o, rfl, Nat.lt_of_lt_of_le h1 hb.size, fun j hj i v hv => ?_⟩
  rw [hb.cell (p := ⟨b, o + j * 5 + i, none⟩) (by show b < n; omega)]
  exact h2 j hj i v hv
end Go.Proofs.YtbfllifgmlkndaaGreatDoor

namespace Go.Proofs.YtbfllifgmlkndaaGreatDoor
open Go.RowKit
open Slot

/-- whose a slot is, of the first k cuts -/
def ownAt (C : List Int) (s : Int) : Nat → Int
  | 0 => -1
  | k + 1 => if C.getD k 0 ≤ s then (k : Int) else ownAt C s k
theorem ownAt_le (C : List Int) (s : Int) : ∀ k, -1 ≤ ownAt C s k ∧ ownAt C s k < (k : Int)
  | 0 => ⟨Int.le_refl _, by show (-1 : Int) < 0; decide⟩
  | k + 1 => by
    have := ownAt_le C s k
    unfold ownAt
    split <;> omega
/-- a row of numbers that may be read -/
def IntsR (w : World) (a : Option Addr) (C : List Int) : Prop := C ≠ [] → ∃ b o, a = some ⟨b, o, none⟩ ∧ b < w.heap.size ∧ w.rangeAt b o (C.map fun z => .int .i64 z)
theorem IntsR.below {w w' : World} {n : Nat} {a : Option Addr} {C : List Int} (h : IntsR w a C) (hb : Below n w w') (hn : w.heap.size ≤ n) : IntsR w' a C := fun hne => by
  obtain ⟨b, o, rfl, h1, h2⟩ := h hne
  refine ⟨b, o, rfl, Nat.lt_of_lt_of_le h1 hb.size, fun i v hv => ?_⟩
  rw [hb.cell (p := ⟨b, o + i, none⟩) (by show b < n; omega)]
  exact h2 i v hv
set_option maxHeartbeats 4000000 in
set_option maxRecDepth 100000 in
theorem ownern_any (a : Option Addr) (C : List Int) (n c : Nat) (s : Int) (w : World) (hn : C.length = n) (hC : IntsR w a C) (hm : n ≤ 1000) : Calls Tryz.prog 50 #[.agg #[.slice a n c], .int .i64 s] w fun e w' => e = .returned (.int .i64 (ownAt C s n)) ∧ Below w.heap.size w w' := by
  have HW0 := hid (below_alloc w (.cells #[.slice a n c] 63))
  have HC0 := hid (hC.below HW0.out (Nat.le_refl _))
  have HN := hid hn
  have hz : (n : Int) ≤ 1000 := by omega
  clear hn hC
  go_enter Tryz.func50, Tryz.ntmps50
  go_wp2_with fail
  go_loopw [5, 11] (fun r i wr => ∃ k : Nat, k ≤ n ∧ i = .int .i64 k ∧ r = .int .i64 (ownAt C s k) ∧ Hid (wr = w.alloc (.cells #[.slice a n c] 63))) (fun _ i _ => n - (intOf i).toNat)
  case atStart => exact ⟨0, by omega, rfl, rfl, rfl⟩
  case round =>
    obtain ⟨k, hk, rfl, rfl, hw⟩ := hrel
    have hw' : wr = _ := hw
    subst hw'
    obtain ⟨r, hr⟩ : ∃ r, ownAt C s k = r := ⟨_, rfl⟩
    have HR := hid hr
    rw [hr]
    clear hr hw
    generalize w.alloc (.cells #[.slice a n c] 63) = w1 at *
    by_cases hlt : k < n
    · have hkz : (k : Int) < (n : Int) := by omega
      have hkL : k < C.length := by have := HN.out; omega
      obtain ⟨b, o, rfl, hbl, h1⟩ := HC0.out (fun e => by rw [e] at hkL; exact absurd hkL (Nat.not_lt_zero _))
      obtain ⟨z, hzk⟩ : ∃ z, C[k] = z := ⟨_, rfl⟩
      have ck : w1.cell? ⟨b, o + k, none⟩ = some (.int .i64 z) := h1 k _ (by rw [List.getElem?_map, List.getElem?_eq_getElem hkL, hzk]; rfl)
      have HNx : Hid (ownAt C s (k + 1) = if z ≤ s then (k : Int) else r) := by
        show _ = _
        rw [ownAt, HR.out, List.getD_eq_getElem?_getD, List.getElem?_eq_getElem hkL, hzk]; rfl
      clear h1 hzk hkL
      by_cases hzs : z ≤ s
      · go_wp2_with fail
        go_roundw
        case rel => exact ⟨k + 1, by omega, by go_num, by rw [HNx.out, if_pos hzs], (by first | exact rfl | exact True.intro)⟩
        case measure => simp [intOf]; omega
      · go_wp2_with fail
        go_roundw
        case rel => exact ⟨k + 1, by omega, by go_num, by rw [HNx.out, if_neg hzs], (by first | exact rfl | exact True.intro)⟩
        case measure => simp [intOf]; omega
    · obtain rfl : k = n := by omega
      go_wp2_with fail
      go_ret
      exact ⟨by rw [HR.out]; rfl, HW0.out⟩
/-- the slots of a net's node, of the first j -/
def claimsTo (C : List Int) (i : Int) (n j : Nat) : Nat → Bool := fun t => decide (t < j) && decide (ownAt C (t : Int) n = i)
theorem claimsTo_step (C : List Int) (i : Int) (n j : Nat) (hj : j < 16384) : cellsOf (claimsTo C i n (j + 1)) = cellsOf (if ownAt C (j : Int) n = i then (if 0 ≤ (j : Int) ∧ (j : Int) < 16384 then put (claimsTo C i n j) (j : Int).toNat (j : Int).toNat true else claimsTo C i n j) else claimsTo C i n j) := by
  refine cellsOf_congr (fun t _ => ?_)
  unfold claimsTo
  by_cases h : ownAt C (j : Int) n = i
  · rw [if_pos h, if_pos ⟨by omega, by omega⟩, Int.toNat_natCast]
    unfold put
    by_cases e : t = j
    · subst e; simp [h]
    · have e1 : (t < j + 1) ↔ (t < j) := by omega
      have e2 : ¬ (j ≤ t ∧ t ≤ j) := by omega
      simp [e1, e2]
  · rw [if_neg h]
    by_cases e : t = j
    · subst e; simp [h]
    · have e1 : (t < j + 1) ↔ (t < j) := by omega
      simp [e1]
/-- claims, on its way -/
structure Cn (w wr : World) (NC : Array Value) (a : Option Addr) (C : List Int) (i : Int) (n j : Nat) : Prop where
  net : wr.heap[w.heap.size]? = some (.cells NC 63 (0, 0))
  res : Box wr (w.heap.size + 1) (fun _ => false)
  out : Box wr (w.heap.size + 2) (claimsTo C i n j)
  ints : IntsR wr a C
  bel : Below w.heap.size w wr
theorem Cn.call {w wr w' : World} {NC : Array Value} {a : Option Addr} {C : List Int} {i : Int} {n j : Nat} (h : Cn w wr NC a C i n j) (hb : Below wr.heap.size wr w') : Cn w w' NC a C i n j :=
  ⟨(hb.block _ (Array.getElem?_eq_some_iff.1 h.net).1).trans h.net, h.res.below hb h.res.lt, h.out.below hb h.out.lt, h.ints.below hb (Nat.le_refl _), h.bel.trans (hb.mono h.bel.size)⟩
theorem Cn.put {w wr : World} {NC : Array Value} {a : Option Addr} {C : List Int} {i : Int} {n j j' : Nat} (h : Cn w wr NC a C i n j) (ha : ∀ x, a = some x → x.block < w.heap.size) : Cn w (wr.setRow (w.heap.size + 2) (cellsOf (claimsTo C i n j'))) NC a C i n j' := by
  have hb := below_setRow (g := w.heap.size + 2) (Below.refl (w.heap.size + 2) wr) (Nat.le_refl _) (cellsOf (claimsTo C i n j'))
  refine ⟨(setRow_other _ _ _ _ (by omega)).trans h.net, (setRow_other _ _ _ _ (by omega)).trans h.res, setRow_heap _ _ _ _ _ _ h.out, fun hne => ?_, below_setRow h.bel (by omega) _⟩
  obtain ⟨b, o, rfl, h1, h2⟩ := h.ints hne
  refine ⟨b, o, rfl, Nat.lt_of_lt_of_le h1 hb.size, fun k v hv => ?_⟩
  rw [hb.cell (p := ⟨b, o + k, none⟩) (by have h9 : b < w.heap.size := ha ⟨b, o, none⟩ rfl; show b < _; omega)]
  exact h2 k v hv
set_option maxHeartbeats 4000000 in
set_option maxRecDepth 100000 in
theorem nclaims_any (a : Option Addr) (C : List Int) (n c : Nat) (i : Int) (w : World) (hn : C.length = n) (hC : IntsR w a C) (ha : ∀ x, a = some x → x.block < w.heap.size) (hm : n ≤ 1000) : Calls Tryz.prog 48 #[.agg #[.slice a n c], .int .i64 i] w fun e w' => e = .returned (.agg (cellsOf (claimsTo C i n 64))) ∧ Below w.heap.size w w' := by
  have hz := zeroBits
  have HCn0 : Hid (Cn w (((w.alloc (.cells #[.slice a n c] 63)).alloc (.cells (cellsOf fun _ => false) 24)).alloc (.cells (cellsOf fun _ => false) 24)) #[.slice a n c] a C i n 0) := by
    have b1 := below_alloc w (.cells #[.slice a n c] 63)
    have b2 := below_alloc (w.alloc (.cells #[.slice a n c] 63)) (.cells (cellsOf fun _ => false) 24)
    have b3 := below_alloc ((w.alloc (.cells #[.slice a n c] 63)).alloc (.cells (cellsOf fun _ => false) 24)) (.cells (cellsOf fun _ => false) 24)
    have e1 : (w.alloc (.cells #[.slice a n c] 63)).heap.size = w.heap.size + 1 := by simp
    have e2 : ((w.alloc (.cells #[.slice a n c] 63)).alloc (.cells (cellsOf fun _ => false) 24)).heap.size = w.heap.size + 2 := by simp
    have hbl : Below w.heap.size w (((w.alloc (.cells #[.slice a n c] 63)).alloc (.cells (cellsOf fun _ => false) 24)).alloc (.cells (cellsOf fun _ => false) 24)) := b1.trans ((b2.mono (by omega)).trans (b3.mono (by omega)))
    have e0 : claimsTo C i n 0 = fun _ => false := by funext t; simp [claimsTo]
    refine ⟨?_, ?_, ?_, hC.below hbl (Nat.le_refl _), hbl⟩
    · exact (b3.block _ (by omega)).trans ((b2.block _ (by omega)).trans (heap_alloc_new w _))
    · have := heap_alloc_new (w.alloc (.cells #[.slice a n c] 63)) (.cells (cellsOf fun _ => false) 24)
      rw [e1] at this
      exact (b3.block _ (by omega)).trans this
    · have := heap_alloc_new ((w.alloc (.cells #[.slice a n c] 63)).alloc (.cells (cellsOf fun _ => false) 24)) (.cells (cellsOf fun _ => false) 24)
      rw [e2] at this
      rw [e0]
      exact this
  have HOw := hid (fun (j : Nat) (W : World) (h : IntsR W a C) => ownern_any a C n c (j : Int) W hn h hm)
  have HWi := hid (fun (S : Nat → Bool) (j : Nat) (W : World) => rWith_any S (j : Int) true W)
  have HA := hid ha
  have HM := hid hm
  obtain ⟨NC, hNC⟩ : ∃ C : Array Value, #[.slice a n c] = C := ⟨_, rfl⟩
  have iN : (Tryz.prog.info? 63).map (·.size) = some NC.size := by rw [← hNC]; show _ = some 1; kernel_rfl
  rw [hNC] at HCn0 HOw ⊢
  clear hNC hn hC ha hm
  go_enter Tryz.func48, Tryz.ntmps48
  go_upto_region 2 with fail
  generalize (((w.alloc (.cells NC 63)).alloc (.cells (cellsOf fun _ => false) 24)).alloc (.cells (cellsOf fun _ => false) 24)) = w2 at *
  go_wp2_with fail
  go_loopw [7] (fun c7 wr => ∃ j : Nat, j ≤ 64 ∧ c7 = .int .i64 j ∧ Hid (Cn w wr NC a C i n j)) (fun c7 _ => 64 - (intOf c7).toNat)
  case atStart => exact ⟨0, by omega, rfl, HCn0.out⟩
  case round =>
    obtain ⟨j, hj, rfl, HCn⟩ := hrel
    by_cases hlt : j < 64
    · have hjz : (j : Int) < 64 := by omega
      have HNt := hid HCn.out.net
      obtain ⟨r, hr⟩ : ∃ r, ownAt C (j : Int) n = r := ⟨_, rfl⟩
      have HOj := hid (HOw.out j wr HCn.out.ints)
      rw [hr] at HOj
      have HSt := hid (claimsTo_step C i n j (by omega))
      rw [hr] at HSt
      clear hr
      go_wp2_with (refine wpList_load_row rfl 63 _ rfl w.heap.size rfl 63 _ (0, 0) _ HNt.out Tryz.underlying63 rfl iN ?_)
      refine HOj.out.mono ?_; rintro e w3 ⟨rfl, hb⟩
      have HC3 := hid (HCn.out.call hb)
      clear hb
      by_cases hri : r = i
      · subst hri
        have HO3 : Hid (w3.heap[w.heap.size + 2]? = some (.cells (cellsOf (claimsTo C r n j)) 24 (0, 0))) := HC3.out.out
        have i2 := infoBits (claimsTo C r n j)
        have HWj := hid (HWi.out (claimsTo C r n j) j)
        have hif : (if 0 ≤ (j : Int) ∧ (j : Int) < 16384 then put (claimsTo C r n j) (j : Int).toNat (j : Int).toNat true else claimsTo C r n j) = put (claimsTo C r n j) j j true := by rw [if_pos ⟨by omega, by omega⟩]; rfl
        rw [hif] at HWj
        have HSt2 : Hid (cellsOf (put (claimsTo C r n j) j j true) = cellsOf (claimsTo C r n (j + 1))) := by
          show _ = _
          rw [HSt.out, if_pos rfl, hif]
        clear hif
        go_wp2_with (refine wpList_load_row rfl 24 _ rfl (w.heap.size + 2) rfl 24 _ (0, 0) _ HO3.out Tryz.underlying24 rfl i2 ?_)
        refine (HWj.out _).mono ?_; rintro e w4 ⟨rfl, hb⟩
        have HC4 := hid (HC3.out.call hb)
        have HO4 : Hid (w4.heap[w.heap.size + 2]? = some (.cells (cellsOf (claimsTo C r n j)) 24 (0, 0))) := HC4.out.out
        have HC5 := hid (HC4.out.put (j' := j + 1) HA.out)
        rw [HSt2.out]
        clear hb HC3 HO3
        go_wp2_with (refine wpList_store_row rfl 24 _ _ rfl (w.heap.size + 2) _ rfl rfl 24 _ HO4.out (infoBits _) (sizes _ _) (oneCells _) ?_)
        go_roundw
        case rel => exact ⟨j + 1, by omega, by go_num, HC5.out⟩
        case measure => simp [intOf]; omega
      · have hrb : (r == i) = false := beq_eq_false_iff_ne.2 hri
        have HC4 : Hid (Cn w w3 NC a C i n (j + 1)) := by
          have h := HC3.out
          refine ⟨h.net, h.res, ?_, h.ints, h.bel⟩
          show _ = _
          rw [HSt.out, if_neg hri]
          exact h.out
        go_wp2_with fail
        go_roundw
        case rel => exact ⟨j + 1, by omega, by go_num, HC4.out⟩
        case measure => simp [intOf]; omega
    · obtain rfl : j = 64 := by omega
      have HO3 : Hid (wr.heap[w.heap.size + 2]? = some (.cells (cellsOf (claimsTo C i n 64)) 24 (0, 0))) := HCn.out.out
      have HR3 : Hid (wr.heap[w.heap.size + 1]? = some (.cells (cellsOf fun _ => false) 24 (0, 0))) := HCn.out.res
      have HW3 := hid HCn.out.bel
      have i2 := infoBits (claimsTo C i n 64)
      go_wp2_with (first | (refine wpList_load_row rfl 24 _ rfl (w.heap.size + 2) rfl 24 _ (0, 0) _ HO3.out Tryz.underlying24 rfl i2 ?_) | (refine wpList_store_row rfl 24 _ _ rfl (w.heap.size + 1) _ rfl rfl 24 _ HR3.out (infoBits _) (sizes _ _) (oneCells _) ?_))
      refine bodyPost_ret (v := .agg (cellsOf (claimsTo C i n 64))) ?_ rfl ?_
      · exact results_cell_row rfl _ _ (w.heap.size + 1) 24 _ (0, 0) _ rfl (setRow_heap _ _ _ _ _ _ HR3.out) Tryz.underlying24 rfl i2
      · exact ⟨rfl, below_setRow HW3.out (by omega) _⟩

end Go.Proofs.YtbfllifgmlkndaaGreatDoor

namespace Go.Proofs.YtbfllifgmlkndaaGreatDoor
open Go.RowKit
open Slot

/-- the listed variables, in the rows' order -/
def listed : List (String × DataW Unit) := [("marshalyard/crc.halfSums", Rows.laid_marshalyard_crc_halfSums), ("math/bits.deBruijn32tab", Rows.laid_math_bits_deBruijn32tab), ("math/bits.deBruijn64tab", Rows.laid_math_bits_deBruijn64tab), ("internal/strconv.uint64pow10", Rows.laid_internal_strconv_uint64pow10), ("strconv.ErrRange", Rows.laid_strconv_ErrRange), ("strconv.ErrSyntax", Rows.laid_strconv_ErrSyntax)]
theorem gTab : Tryz.prog.globalNamed "marshalyard/crc.halfSums" = some 0 := by kernel_rfl
theorem gTabType : (Tryz.prog.globals[0]?).map (·.type) = some 158 := by kernel_rfl
theorem gBr : Tryz.prog.globalNamed "math/bits.deBruijn64tab" = some 6 := by kernel_rfl
theorem gBrType : (Tryz.prog.globals[6]?).map (·.type) = some 210 := by kernel_rfl
theorem gPowType : (Tryz.prog.globals[2]?).map (·.type) = some 195 := by kernel_rfl
theorem gSynType : (Tryz.prog.globals[3]?).map (·.type) = some 166 := by kernel_rfl
theorem gRanType : (Tryz.prog.globals[4]?).map (·.type) = some 166 := by kernel_rfl
theorem cellsTab : Tryz.prog.cellsOf 158 = 16 := by kernel_rfl
theorem cellsBr : Tryz.prog.cellsOf 210 = 64 := by kernel_rfl
theorem cellsPow : Tryz.prog.cellsOf 195 = 20 := by kernel_rfl
theorem cells16 : Tryz.prog.cellsOf 128 = 1 := by kernel_rfl
theorem cells8 : Tryz.prog.cellsOf 5 = 1 := by kernel_rfl
theorem cells64 : Tryz.prog.cellsOf 22 = 1 := by kernel_rfl
theorem cellsES : Tryz.prog.cellsOf 208 = 1 := by kernel_rfl
theorem cellsStr : Tryz.prog.cellsOf 9 = 1 := by kernel_rfl
theorem starES : "*" ++ "errors.errorString" = "*errors.errorString" := by decide
theorem rowES : ∀ u, Tryz.prog.typeName? 3 u = some "*errors.errorString" → u = 206 := fun u h =>
  typeName_ptr_named (nm := "errors.errorString") (by rw [starES]; kernel_rfl) (by kernel_rfl) (by decide) u (by rw [starES]; exact h)
def sums : List Int := [0, 4129, 8258, 12387, 16516, 20645, 24774, 28903, 33032, 37161, 41290, 45419, 49548, 53677, 57806, 61935]
theorem sums_eq : ∀ i : Fin 16, sums.getD i.val 0 = ((Crc.tabL.getD i.val 0#16).toNat : Int) := by decide +kernel
def bru : List Int := [0, 1, 56, 2, 57, 49, 28, 3, 61, 58, 42, 50, 38, 29, 17, 4, 62, 47, 59, 36, 45, 43, 51, 22, 53, 39, 33, 30, 24, 18, 12, 5, 63, 55, 48, 27, 60, 41, 37, 16, 46, 35, 44, 21, 52, 32, 23, 11, 54, 26, 40, 15, 34, 20, 31, 10, 25, 14, 19, 9, 13, 8, 7, 6]
theorem env_of {W : World} (hL : laidMetH Tryz.prog listed W) : Env W := by
  have h : laidMet Tryz.prog listed W := (MakeChecks.laidMetH_plain _ _ _ (by kernel_rfl)) ▸ hL
  have t1 : Lib.TabIs Tryz.prog W "marshalyard/crc.halfSums" .u16 sums := Lib.tabIs_of_head gTab gTabType Tryz.underlying158 Tryz.underlying128 cells16 cellsTab h
  have t3 : Lib.TabIs Tryz.prog W "internal/strconv.uint64pow10" .u64 Lib.pow10Tab := Lib.tabIs_of_head gPow gPowType Tryz.underlying195 Tryz.underlying22 cells64 cellsPow h.tail.tail.tail
  have t2 : Lib.TabIs Tryz.prog W "math/bits.deBruijn64tab" .u8 bru := Lib.tabIs_of_head gBr gBrType Tryz.underlying210 Tryz.underlying5 cells8 cellsBr h.tail.tail
  obtain ⟨a0, s0, hv0, -, -, -⟩ := laid_sentinel h.tail.tail.tail.tail gRan gRanType Tryz.underlying166 rowES Tryz.underlying206 Tryz.underlying208 rfl rfl Tryz.underlying9 cellsES cellsStr
  obtain ⟨a1, s1, hv1, -, -, -⟩ := laid_sentinel h.tail.tail.tail.tail.tail gSyn gSynType Tryz.underlying166 rowES Tryz.underlying206 Tryz.underlying208 rfl rfl Tryz.underlying9 cellsES cellsStr
  refine ⟨?_, fun i hi => ?_, t3, ⟨_, _, hv1⟩, ⟨_, _, hv0⟩⟩
  · by_cases h6 : 6 < W.heap.size
    · exact h6
    · exfalso
      have hc := t2.cell gBr 0 (by decide)
      unfold World.cell? at hc
      rw [Array.getElem?_eq_none (Nat.le_of_not_lt h6)] at hc
      cases hc
  · rw [t1.cell gTab i hi]
    exact congrArg (fun z => some (Value.int .u16 z)) (sums_eq ⟨i, hi⟩)

def synS : ByteArray := { data := #[105, 110, 118, 97, 108, 105, 100, 32, 115, 121, 110, 116, 97, 120] }
def rngS : ByteArray := { data := #[118, 97, 108, 117, 101, 32, 111, 117, 116, 32, 111, 102, 32, 114, 97, 110, 103, 101] }
def bru32 : List Int := [0, 1, 28, 2, 29, 14, 24, 3, 30, 22, 20, 15, 25, 17, 4, 8, 31, 27, 13, 23, 21, 19, 16, 7, 26, 12, 18, 6, 11, 5, 10, 9]
/-- so many blocks has the settled world -/
def low (P : Program) : Nat := (World.holding P default ⟨#[], #[], []⟩).heap.size
def fillOf (cs : Array Value) : Obj → Obj
  | .cells _ t frozen => .cells cs t frozen
  | o => o
/-- a world for the witness: the settled one, each listed variable holding what its initialiser lays -/
def laidWorld (P : Program) (os : Os) : World :=
  { World.holding P os ⟨#[.cells #[.string synS] 208, .cells #[.string rngS] 208], #[], []⟩ with
    heap := ((((((World.holding P os ⟨#[.cells #[.string synS] 208, .cells #[.string rngS] 208], #[], []⟩).heap.modify 0 (fillOf (sums.map (Value.int .u16)).toArray)).modify 2 (fillOf (Lib.pow10Tab.map (Value.int .u64)).toArray)).modify 3 (fillOf #[.iface 206 (.pointer (some ⟨low P, 0, none⟩))])).modify 4 (fillOf #[.iface 206 (.pointer (some ⟨low P + 1, 0, none⟩))])).modify 5 (fillOf (bru32.map (Value.int .u8)).toArray)).modify 6 (fillOf (bru.map (Value.int .u8)).toArray) }
theorem laid_met (os : Os) (args : Array Value) : laidMet Tryz.prog listed ((laidWorld Tryz.prog os).forCall (fun _ _ => 0) ⟨#[], args, []⟩).memory :=
  laidMet_of_run' 8 (by kernel_rfl) (by kernel_rfl)

end Go.Proofs.YtbfllifgmlkndaaGreatDoor

namespace Go.Proofs.YtbfllifgmlkndaaGreatDoor
open Go.ChangeShapes Go.WideShapes Go.ChangeAt Go.RowKit
open Slot

theorem cellsNet : Tryz.prog.cellsOf 63 = 1 := by kernel_rfl
theorem cellsInts1 : Tryz.prog.cellsOf 61 = 1 := by kernel_rfl
theorem cellsIntN : Tryz.prog.cellsOf 3 = 1 := by kernel_rfl
theorem open_ints {H : Type} {enc : TypeId × Value → H} {W : World} {base : Nat} {sp : Nat → Bool} {held : Bool} {m : Nat} {a : Option Addr} {len cap : Nat} {x : DataW H × List MemPlace} (hm : DataW.trod enc Tryz.prog W base sp held m 61 [.slice a len cap] = some x) :
    ∃ l : List Int, l.length = len ∧ IntsR W a l ∧ len ≤ 9223372036854775807 := by
  rcases DataW.trod_slice Tryz.underlying61 hm with ⟨e3, _⟩ | ⟨a', len', cap', elems, rest, n', hn', e3, hx, _, hlc, hcm, hel, hE, _⟩
  · obtain ⟨rfl, rfl, rfl⟩ : a = none ∧ len = 0 ∧ cap = 0 := by simpa using e3
    exact ⟨[], rfl, (fun h => absurd rfl h), by decide⟩
  · obtain ⟨rfl, rfl, rfl⟩ : a = some a' ∧ len = len' ∧ cap = cap' := by simpa using e3
    have each : ∀ i, i < len → ∃ z : Int, W.cells? base (a'.add (i * 1)) 1 = some [Value.int .i64 z] := fun i hi => by
      have h1 := hE i hi
      rw [cellsIntN, List.getElem?_eq_getElem (by omega)] at h1
      obtain ⟨cs', h2, h3⟩ := Option.bind_eq_some_iff.1 h1
      obtain ⟨z, ho, -, -⟩ := DataW.trod_int Tryz.underlying3 h3
      exact ⟨z, by rw [← ho]; exact h2⟩
    obtain ⟨F, hF⟩ := Go.Deep.choose_lt each
    have hL : ((List.range len).map F).length = len := by simp
    refine ⟨(List.range len).map F, hL, fun hne => ?_, Nat.le_trans hlc hcm⟩
    have hpos : 0 < len := by
      rcases Nat.eq_zero_or_pos len with h | h
      · subst h; exact absurd rfl hne
      · exact h
    obtain ⟨blk, off, spot⟩ := a'
    have hsp : spot = none := by
      obtain ⟨_, _, h3⟩ := World.cells?_some (hF 0 hpos)
      have h4 := h3 0 (by decide)
      simpa [Addr.add] using World.cell?_spot h4
    subst hsp
    have get : ∀ i, i < len → W.cell? ⟨blk, off + i, none⟩ = some (.int .i64 (F i)) := fun i hi => by
      obtain ⟨_, _, h4⟩ := World.cells?_some (hF i hi)
      have g := h4 0 (by decide)
      simp only [add_plain] at g
      simpa using g
    refine ⟨blk, off, rfl, ?_, fun i v hv => ?_⟩
    · have h0 := get 0 hpos
      exact block_lt_of_cell h0
    · have hi : i < len := by
        have := (List.getElem?_eq_some_iff.1 hv).1
        simpa using this
      rw [get i hi, ← hv]
      simp [hi]
theorem one_of {α : Type} : ∀ {l : List α}, l.length = 1 → ∃ a, l = [a]
  | [a], _ => ⟨a, rfl⟩
theorem open_net {H : Type} {enc : TypeId × Value → H} {W : World} {base : Nat} {spare : Nat → Bool} {held : Bool} {fuel : Nat} {cs : Array Value} {d : DataW H} {p : List MemPlace} (hs : cs.size = Tryz.prog.cellsOf 63) (h : DataW.trod enc Tryz.prog W base spare held fuel 63 (Value.agg cs).cells.toList = some (d, p)) :
    ∃ (a : Option Addr) (l : List Int) (len cap : Nat), cs = #[.slice a len cap] ∧ l.length = len ∧ IntsR W a l ∧ len ≤ 9223372036854775807 := by
  rw [cellsNet] at hs
  obtain ⟨xs, n, rfl, -, hl, hlen, hf⟩ := DataW.trod_struct Tryz.underlying63 h
  obtain ⟨y0, rfl⟩ := one_of (show xs.length = 1 from hlen)
  obtain ⟨c0, hc⟩ := one_of (show cs.toList.length = 1 by simpa using hs)
  have f0 : DataW.trod enc Tryz.prog W base spare held n 61 ((cs.toList.drop 0).take (Tryz.prog.cellsOf 61)) = some y0 := hf 0 _ rfl
  rw [cellsInts1, hc] at f0
  have f0' : DataW.trod enc Tryz.prog W base spare held n 61 [c0] = some y0 := f0
  have hsh : ∃ a len cap, c0 = .slice a len cap := by
    rcases DataW.trod_slice Tryz.underlying61 f0' with ⟨e, _⟩ | ⟨a', len', cap', _, _, _, _, e, _⟩
    · exact ⟨none, 0, 0, by simpa using e⟩
    · exact ⟨some a', len', cap', by simpa using e⟩
  obtain ⟨a, len, cap, rfl⟩ := hsh
  obtain ⟨l, h1, h2, h3⟩ := open_ints f0'
  exact ⟨a, l, len, cap, Array.toList_inj.1 hc, h1, h2, h3⟩

end Go.Proofs.YtbfllifgmlkndaaGreatDoor
