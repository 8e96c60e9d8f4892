/- Two texts xored: the walk of the law CrcXors. -/
import Derived.Test.YtmokokkdllmdoaaDoorOwn
import Derived.Test.YtmokokkdllmdoaaDoorZeros
import Derived.Deep.RegionWith
import Derived.RegionTactic
import Derived.ChangeAlike
import Derived.BigRegion
namespace Go.Proofs.YtmokokkdllmdoaaDoor
open Go.RowKit
open Crc

/-- the row as it stands behind k rounds -/
def xrow (l m : List (BitVec 8)) (n k : Nat) : List (BitVec 8) := List.zipWith (· ^^^ ·) (l.take k) (m.take k) ++ List.replicate (n - k) 0#8
theorem xrow_len (l m : List (BitVec 8)) (n k : Nat) (hk : k ≤ n) (h1 : n ≤ l.length) (h2 : n ≤ m.length) : (xrow l m n k).length = n := by
  simp [xrow]; omega
theorem xrow_zero (l m : List (BitVec 8)) (n : Nat) : xrow l m n 0 = List.replicate n 0#8 := by simp [xrow]
theorem xrow_step (l m : List (BitVec 8)) (n k : Nat) (hk : k < n) (h1 : n ≤ l.length) (h2 : n ≤ m.length) : (xrow l m n k).set k (l.getD k 0#8 ^^^ m.getD k 0#8) = xrow l m n (k + 1) := by
  have e1 : (List.zipWith (· ^^^ ·) (l.take k) (m.take k)).length = k := by simp; omega
  unfold xrow
  rw [List.set_append, if_neg (by omega), e1, Nat.sub_self, take_snoc l k (by omega), take_snoc m k (by omega), List.zipWith_append (by simp; omega)]
  rw [show n - k = (n - (k + 1)) + 1 by omega, List.replicate_succ]
  simp
theorem xrow_end (l m : List (BitVec 8)) (n : Nat) : xrow l m n n = List.zipWith (· ^^^ ·) (l.take n) (m.take n) := by simp [xrow]
theorem xrow_sum (l m : List (BitVec 8)) (n : Nat) (h1 : n ≤ l.length) (h2 : n ≤ m.length) : more 0#16 (xrow l m n n) = more 0#16 (l.take n) ^^^ more 0#16 (m.take n) := by
  rw [xrow_end, ← more_xor _ _ (by simp; omega)]
  simp

theorem len_take {l : List (BitVec 8)} {k : Nat} (h : k ≤ l.length) : (l.take k).length = k := by simp; omega
theorem Tab.drew {w : World} (h : Tab w) : Tab w.drew := h
theorem undrew {w w1 : World} (h : Below w.drew.heap.size w.drew w1) : Below w.heap.size w w1 := ⟨h.os, h.tape, h.output, h.size, h.block⟩
theorem row_take (b off : Nat) (l : List (BitVec 8)) (k : Nat) (w : World) (hk : k ≤ l.length) (hb : k ≤ 9223372036854775807) (hc : ∀ j, j < k → w.cell? ⟨b, off + j, none⟩ = some (.int .u8 ((l.getD j 0#8).toNat : Int))) : Row w (some ⟨b, off, none⟩) (l.take k) := by
  have e : (l.take k).length = k := by simp; omega
  refine ⟨by omega, fun _ => ⟨b, off, rfl, fun j hj => ?_⟩⟩
  rw [e] at hj
  rw [hc j hj]
  have hj' : j < l.length := by omega
  simp [List.getD, hj, hj']
/-- Sum of a row that lies in memory since the loop's end, whatever has come since -/
theorem sum_in {w wr : World} {a : Option Addr} {l : List (BitVec 8)} {n : Nat} (ht : Tab w) (hb : Below w.heap.size w wr) (hr : Row wr a l) (hn : l.length = n) (cap : Nat) :
    ∀ W, Below wr.heap.size wr W → Calls Tryd.prog 10 #[.slice a n cap] W fun e w' => e = .returned (.int .u16 ((more 0#16 l).toNat : Int)) ∧ w' = W := by
  intro W hW
  subst hn
  exact sum_any a cap l W ((ht.below hb).below hW) (hr.below hW)

set_option maxHeartbeats 4000000 in
theorem xors_pos (b off cap ln : Nat) (l : List (BitVec 8)) (b2 off2 cap2 mn : Nat) (m : List (BitVec 8)) (w : World) (n : Nat) (hn : (n = ln ∧ ¬ mn < n) ∨ (n = mn ∧ n < ln)) (hcap : ln ≤ cap) (hcap2 : mn ≤ cap2) (ht : Tab w) (hl : ln ≤ 140737488351232) (hm : mn ≤ 140737488351232) (el : l.length = ln) (em : m.length = mn)
    (hc : ∀ j, j < ln → w.cell? ⟨b, off + j, none⟩ = some (.int .u8 ((l.getD j 0#8).toNat : Int)))
    (hc2 : ∀ j, j < mn → w.cell? ⟨b2, off2 + j, none⟩ = some (.int .u8 ((m.getD j 0#8).toNat : Int))) :
    Calls Tryd.prog 7 #[.slice (some ⟨b, off, none⟩) ln cap, .slice (some ⟨b2, off2, none⟩) mn cap2] w fun e w' => e = .returned (.bool true) ∧ Below w.heap.size w w' := by
  have hn1 : n ≤ ln := by omega
  have hn2 : n ≤ mn := by omega
  have HC := hid (fun j (hj : j < n) => hc j (by omega))
  have HC2 := hid (fun j (hj : j < n) => hc2 j (by omega))
  have HT := hid ht
  have h1 : n ≤ l.length := by omega
  have h2 : n ≤ m.length := by omega
  have H1 := hid h1
  have H2 := hid h2
  have hmk := make_run n (by omega)
  have HO0 : Hid (Own w.heap.size (w.alloc (.cells (cellsOf (List.replicate n 0#8)).toArray 5)) w.heap.size n (xrow l m n 0)) := by
    have := own_new w.heap.size w (List.replicate n 0#8) (Nat.le_refl _) (by simp [maxLen]; omega)
    show Own _ _ _ _ _
    rw [xrow_zero]
    simpa using this
  have HB0 := hid ((Below.refl w.heap.size w).alloc (Nat.le_refl _) (.cells (cellsOf (List.replicate n 0#8)).toArray 5))
  generalize (cellsOf (List.replicate n 0#8)).toArray = C at hmk HO0 HB0
  clear hc hc2 ht el em h1 h2
  rcases hn with ⟨rfl, hn⟩ | ⟨rfl, hn⟩
  all_goals
    go_enter Tryd.func7, Tryd.ntmps7
    go_wp2
    go_loopw [7, 17] (fun _ i wr => ∃ k : Nat, k ≤ n ∧ i = .int .i64 k ∧ Own w.heap.size wr w.heap.size n (xrow l m n k) ∧ Below w.heap.size w wr) (fun _ i _ => n - (intOf i).toNat)
    case atStart => exact ⟨0, Nat.zero_le _, rfl, HO0.out, HB0.out⟩
    case round =>
      obtain ⟨k, hk, rfl, hown, hbel⟩ := hrel
      have HO := hid hown
      have HB := hid hbel
      clear hown hbel
      by_cases hlt : k < n
      · have hcell : wr.cell? ⟨b, off + k, none⟩ = some (.int .u8 ((l.getD k 0#8).toNat : Int)) := by
          have := HC.out k hlt
          rwa [← HB.out.cell (p := ⟨b, off + k, none⟩) (cell_lt this)] at this
        have hcell2 : wr.cell? ⟨b2, off2 + k, none⟩ = some (.int .u8 ((m.getD k 0#8).toNat : Int)) := by
          have := HC2.out k hlt
          rwa [← HB.out.cell (p := ⟨b2, off2 + k, none⟩) (cell_lt this)] at this
        have hx := HO.out.cell k (by rw [xrow_len l m n k (by omega) H1.out H2.out]; omega)
        have hf := HO.out.frozen k
        have hxor := xor8 (l.getD k 0#8) (m.getD k 0#8)
        have HO2 := hid (HO.out.set k (l.getD k 0#8 ^^^ m.getD k 0#8))
        rw [xrow_step l m n k hlt H1.out H2.out] at HO2
        have HB2 := hid (HB.out.setCell (p := ⟨w.heap.size, k, none⟩) (Nat.le_refl _) (.int .u8 ((l.getD k 0#8 ^^^ m.getD k 0#8).toNat : Int)))
        generalize l.getD k 0#8 = X at hcell hxor HO2 HB2
        generalize m.getD k 0#8 = Y at hcell2 hxor HO2 HB2
        generalize ((X ^^^ Y).toNat : Int) = z at hxor HO2 HB2
        generalize (X.toNat : Int) = x at hcell hxor
        generalize (Y.toNat : Int) = y at hcell2 hxor
        go_wp2
        go_region
        all_goals go_wp2
        all_goals go_roundw
        case rel => exact ⟨k + 1, by omega, by go_num, HO2.out, HB2.out.drew⟩
        case measure => simp [intOf]; omega
      · obtain rfl : k = n := by omega
        have HX := hid (sum_in HT.out HB.out HO.out.row (xrow_len l m k k (Nat.le_refl _) H1.out H2.out) k)
        have HSA := hid (sum_in HT.out HB.out ((row_take b off l k w H1.out (by omega) HC.out).below HB.out) (len_take H1.out) cap)
        have HSB := hid (sum_in HT.out HB.out ((row_take b2 off2 m k w H2.out (by omega) HC2.out).below HB.out) (len_take H2.out) cap2)
        have hxs := xor16 (more 0#16 (l.take k)) (more 0#16 (m.take k))
        rw [← xrow_sum l m k H1.out H2.out] at hxs
        generalize ((more 0#16 (xrow l m k k)).toNat : Int) = z at HX hxs
        generalize ((more 0#16 (l.take k)).toNat : Int) = x at HSA hxs
        generalize ((more 0#16 (m.take k)).toNat : Int) = y at HSB hxs
        have HA := hid (HT.out.below HB.out)
        have hk1 : k ≤ cap := by omega
        have hk2 : k ≤ cap2 := by omega
        clear hmk HO0 HB0 HC HC2 H1 H2 HO hl hm hcap hcap2 hn1 hn2 HT
        go_wp2
        go_region_with (first
          | (go_at_call 9; refine (alive_any _ HA.out.drew).mono ?_; rintro e w1 ⟨rfl, hb⟩; replace hb := hid (undrew hb))
          | (go_at_call_of 10 (Value.slice (some ⟨w.heap.size, 0, none⟩) k k); refine (HX.out _ ?_).mono ?_; exact hb.out; rintro e w' ⟨rfl, rfl⟩)
          | (go_at_call_of 10 (Value.slice (some ⟨b, off, none⟩) k cap); refine (HSA.out _ ?_).mono ?_; exact hb.out; rintro e w' ⟨rfl, rfl⟩)
          | (go_at_call_of 10 (Value.slice (some ⟨b2, off2, none⟩) k cap2); refine (HSB.out _ ?_).mono ?_; exact hb.out; rintro e w' ⟨rfl, rfl⟩))
        all_goals go_wp2
        all_goals go_ret
        all_goals exact ⟨rfl, HB.out.trans (hb.out.mono HB.out.size)⟩

end Go.Proofs.YtmokokkdllmdoaaDoor
