/- The law of bits turned: ValueBursts. -/
import Derived.Test.YtmjmdfenkhmfbaaDoorLawLoads
namespace Go.Proofs.YtmjmdfenkhmfbaaDoor
open Go.RowKit
open Crc

theorem and_bit (T : BitVec 16) (k : Nat) : bits BinOp.and IntKind.u16 ((T.toNat : Int) / 2 ^ k) 1 = if T.getLsbD k = true then 1 else 0 := by
  have ht := T.isLt
  have e0 : ((T.toNat : Int) / 2 ^ k) = ((T.toNat / 2 ^ k : Nat) : Int) := by simp
  have hle : T.toNat / 2 ^ k ≤ T.toNat := Nat.div_le_self _ _
  have e1 : bits BinOp.and IntKind.u16 ((T.toNat / 2 ^ k : Nat) : Int) ((1 : Nat) : Int) = ((T.toNat / 2 ^ k % 2 : Nat) : Int) := by
    rw [u16_and_nat _ _ (by omega) (by decide), Nat.and_one_is_mod]
  rw [e0, show (1 : Int) = ((1 : Nat) : Int) from rfl, e1, BitVec.getLsbD, Nat.testBit_eq_decide_div_mod_eq]
  by_cases h : T.toNat / 2 ^ k % 2 = 1
  · simp [h]
  · simp [h]
    omega
theorem mask_all : ∀ r : Fin 8, (128 : Int) / 2 ^ r.val = ((128#8 >>> r.val).toNat : Int) := by decide +kernel
theorem mask_nat (r : Nat) (h : r < 8) : (128 : Int) / 2 ^ r = ((128#8 >>> r).toNat : Int) := mask_all ⟨r, h⟩


/-- bytes in a block, that may be written -/
def BR (w : World) (g : Nat) (l : List (BitVec 8)) : Prop := ∃ cs lo hi, w.heap[g]? = some (.cells cs 5 (lo, hi)) ∧ l.length ≤ cs.size ∧ l.length ≤ lo ∧ ∀ j, j < l.length → cs[j]? = some (.int .u8 ((l.getD j 0#8).toNat : Int))
theorem BR.cell {w : World} {g : Nat} {l : List (BitVec 8)} (h : BR w g l) (j : Nat) (hj : j < l.length) : w.cell? ⟨g, j, none⟩ = some (.int .u8 ((l.getD j 0#8).toNat : Int)) := by
  obtain ⟨cs, lo, hi, h1, h2, h3, h4⟩ := h
  rw [cell_of_row w g j cs _ _ h1]; exact h4 j hj
theorem BR.frozen {w : World} {g : Nat} {l : List (BitVec 8)} (h : BR w g l) (j : Nat) (hj : j < l.length) : w.frozen? ⟨g, j, none⟩ = false := by
  obtain ⟨cs, lo, hi, h1, h2, h3, h4⟩ := h
  simp only [World.frozen?, h1]
  rw [decide_eq_false (by omega)]
  rfl
theorem BR.lt {w : World} {g : Nat} {l : List (BitVec 8)} (h : BR w g l) : g < w.heap.size := by
  obtain ⟨cs, lo, hi, h1, _⟩ := h
  exact (Array.getElem?_eq_some_iff.1 h1).1
theorem BR.turn {w w' : World} {g : Nat} {l : List (BitVec 8)} (h : BR w g l) (hb : w'.heap[g]? = w.heap[g]?) : BR w' g l := by
  obtain ⟨cs, lo, hi, h1, h2⟩ := h
  exact ⟨cs, lo, hi, hb.trans h1, h2⟩
theorem BR.set {w : World} {g : Nat} {l : List (BitVec 8)} (h : BR w g l) (q : Nat) (x : BitVec 8) : BR (w.setCell ⟨g, q, none⟩ (.int .u8 (x.toNat : Int))) g (l.set q x) := by
  obtain ⟨cs, lo, hi, h1, h2, h3, h4⟩ := h
  refine ⟨cs.setIfInBounds q (.int .u8 (x.toNat : Int)), lo, hi, ?_, by simpa using h2, by simpa using h3, fun j hj => ?_⟩
  · rw [setCell_eq_setRow w g q cs _ (lo, hi) _ h1]
    exact setRow_heap w g cs _ _ _ h1
  · rw [List.length_set] at hj
    by_cases e : q = j
    · subst e
      rw [Array.getElem?_setIfInBounds_self_of_lt (by omega)]
      simp [List.getD, hj]
    · rw [Array.getElem?_setIfInBounds_ne e, h4 j hj]
      simp [List.getD, List.getElem?_set_ne e]
theorem br_new (w : World) (l : Nm) : BR (Lib.bytesWorld w 5 ⟨l.toArray⟩) w.heap.size (l.map UInt8.toBitVec) := by
  have hs : l.length ≤ (Lib.bytesCells w 5 ⟨l.toArray⟩).size := by simp [Lib.bytesCells]
  refine ⟨_, _, _, Lib.bytesWorld_at_new w 5 ⟨l.toArray⟩, by simpa using hs, by simpa using hs, fun j hj => ?_⟩
  rw [List.length_map] at hj
  have := Lib.bytesWorld_cell w 5 ⟨l.toArray⟩ j (by simpa [ByteArray.size] using hj)
  rw [cell_of_row _ _ j _ _ _ (Lib.bytesWorld_at_new w 5 ⟨l.toArray⟩)] at this
  rw [this]
  simp [List.getD, hj]
theorem br_text {W : World} {g cap : Nat} {l : List (BitVec 8)} (h : BR W g l) : (convert 40 9 (.slice (some ⟨g, 0, none⟩) l.length cap)).run Tryd.prog W = .ok (txt (l.map UInt8.ofBitVec)) W := by
  have := run_convert_bytes_back (P := Tryd.prog) W 40 9 5 ⟨g, 0, none⟩ cap (l.map UInt8.ofBitVec) Tryd.underlying40 Tryd.underlying5 Tryd.underlying9 (fun j hj => by
    rw [List.length_map] at hj
    rw [Go.WideShapes.add_plain, Nat.zero_add, h.cell j hj]
    simp [List.getD, hj])
  rwa [List.length_map] at this
theorem sum_bits (l : List (BitVec 8)) : sumN (l.map UInt8.ofBitVec) = (more 0#16 l).toNat := by
  unfold sumN
  rw [List.map_map]
  congr 2
  exact List.map_id'' (fun x => rfl) l

end Go.Proofs.YtmjmdfenkhmfbaaDoor
