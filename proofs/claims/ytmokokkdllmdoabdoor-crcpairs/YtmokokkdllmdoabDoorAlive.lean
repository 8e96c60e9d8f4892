/- The call that asks whether the sum lives answers true, and leaves all memory that was there as it was; and how a slice that came in is read as a row of bytes. -/
import Derived.Test.YtmokokkdllmdoabDoorWalks
import Derived.Lib.SlBytesConst
import Derived.OpenShut
namespace Go.Proofs.YtmokokkdllmdoabDoor
open Go.RowKit
open Crc

def digits : List (BitVec 8) := [49#8, 50#8, 51#8, 52#8, 53#8, 54#8, 55#8, 56#8, 57#8]
theorem digits_sum : more 0#16 digits = 12739#16 := by decide +kernel
theorem tab_pos {w : World} (h : Tab w) : 0 < w.heap.size := by
  have := h 0 (by decide)
  by_cases hz : 0 < w.heap.size
  · exact hz
  · have e : w.heap[0]? = none := Array.getElem?_eq_none (by omega)
    simp [World.cell?, e] at this
theorem Tab.below {w w' : World} (h : Tab w) (hb : Below w.heap.size w w') : Tab w' := fun i hi => by
  rw [hb.cell (p := ⟨0, i, none⟩) (tab_pos h)]
  exact h i hi
theorem cell_lt {w : World} {b o : Nat} {v : Value} (h : w.cell? ⟨b, o, none⟩ = some v) : b < w.heap.size := by
  by_cases hz : b < w.heap.size
  · exact hz
  · have e : w.heap[b]? = none := Array.getElem?_eq_none (by omega)
    simp [World.cell?, e] at h
theorem Row.below {w w' : World} {a : Option Addr} {l : List (BitVec 8)} (h : Row w a l) (hb : Below w.heap.size w w') : Row w' a l := by
  refine ⟨h.1, fun hl => ?_⟩
  obtain ⟨b, off, ha, hc⟩ := h.2 hl
  exact ⟨b, off, ha, fun j hj => by rw [hb.cell (p := ⟨b, off + j, none⟩) (cell_lt (hc j hj))]; exact hc j hj⟩

theorem digits_row (w : World) (m : Nat × Nat) : Row (w.alloc (.cells #[.int .u8 49, .int .u8 50, .int .u8 51, .int .u8 52, .int .u8 53, .int .u8 54, .int .u8 55, .int .u8 56, .int .u8 57] 5 m)) (some ⟨w.heap.size, 0, none⟩) digits := by
  refine ⟨by decide, fun _ => ⟨_, _, rfl, fun j hj => ?_⟩⟩
  rw [World.cell?_alloc_mark]
  have hj' : j < 9 := hj
  rcases (show j = 0 ∨ j = 1 ∨ j = 2 ∨ j = 3 ∨ j = 4 ∨ j = 5 ∨ j = 6 ∨ j = 7 ∨ j = 8 from by omega) with rfl | rfl | rfl | rfl | rfl | rfl | rfl | rfl | rfl <;> rfl

set_option maxHeartbeats 400000 in
theorem alive_any (w : World) (ht : Tab w) : Calls Tryd.prog 5 #[] w fun e w' => e = .returned (.bool true) ∧ Below w.heap.size w w' := by
  have kc := fun (w : World) (C : Array Value) (n c : Nat) => Lib.run_convert_bytes_const (P := Tryd.prog) w 22 5 C n c Tryd.underlying22 Tryd.underlying5
  have hr := digits_row w (9, 10)
  have hb : Below w.heap.size w (w.alloc (.cells #[.int .u8 49, .int .u8 50, .int .u8 51, .int .u8 52, .int .u8 53, .int .u8 54, .int .u8 55, .int .u8 56, .int .u8 57] 5 (9, 10))) := (Below.refl _ w).alloc (Nat.le_refl _) _
  have HS := hid (sum_any _ 9 _ _ (ht.below hb) hr)
  have HB := hid hb
  clear hr hb ht
  go_enter Tryd.func5, Tryd.ntmps5
  go_wp2_with (go_at_call 6; refine (HS.out).mono ?_; rintro e w' ⟨rfl, rfl⟩; rw [digits_sum])
  go_ret
  exact ⟨rfl, HB.out⟩

/-- what the frame tells of a slice of bytes that came in -/
def IsRow (k : IntKind) (w : World) (a : Option Addr) (len cap : Nat) (zs : List Int) : Prop :=
  (a = none ∧ len = 0 ∧ cap = 0 ∧ zs = []) ∨
  ∃ x, a = some x ∧ len ≤ cap ∧ cap ≤ maxLen ∧ zs.length = cap ∧ (∀ i, i < zs.length → w.cell? (x.add i) = some (.int k (zs.getD i 0))) ∧ ∀ n ∈ zs, (Lit.int k n).wf = true

def bytesOf (len : Nat) (zs : List Int) : List (BitVec 8) := (zs.take len).map (BitVec.ofInt 8)
theorem ofInt8 {z : Int} (h : 0 ≤ z ∧ z ≤ 255) : ((BitVec.ofInt 8 z).toNat : Int) = z := by
  rw [BitVec.toNat_ofInt]
  omega
theorem IsRow.row {w : World} {a : Option Addr} {len cap : Nat} {zs : List Int} (h : IsRow .u8 w a len cap zs) : (bytesOf len zs).length = len ∧ len ≤ cap ∧ Row w a (bytesOf len zs) ∧ (a = none → cap = 0) := by
  rcases h with ⟨rfl, rfl, rfl, rfl⟩ | ⟨x, rfl, hl, hm, hz, hc, hw⟩
  · exact ⟨rfl, Nat.zero_le _, ⟨by simp [bytesOf], fun h => absurd rfl h⟩, fun _ => rfl⟩
  · have e : (bytesOf len zs).length = len := by simp [bytesOf]; omega
    refine ⟨e, hl, ⟨by rw [e]; unfold maxLen at hm; omega, fun hne => ?_⟩, fun h => by cases h⟩
    have hp : 0 < len := by rw [← e]; exact List.length_pos_iff.2 hne
    obtain ⟨b, off, rfl, hcc⟩ := ints_at hc (by omega)
    refine ⟨b, off, rfl, fun j hj => ?_⟩
    rw [e] at hj
    rw [hcc j (by omega)]
    have hjz : j < zs.length := by omega
    have hv : (bytesOf len zs).getD j 0#8 = BitVec.ofInt 8 (zs.getD j 0) := by simp [bytesOf, List.getD, hj, hjz]
    rw [hv, ofInt8 (by have := range_u8 hw j; simpa using this)]

end Go.Proofs.YtmokokkdllmdoabDoor
