/- The program's deque: an array of 256 texts that is gone round, where it begins, how many there are: its small methods. -/
import Derived.Test.YtmlnjcmkengkhaaRing
import Derived.Test.YtmlnjcmkengkhaaMeth
import Derived.Deep.WholeRow
namespace Go.Proofs.Ytmlnjcmkengkhaa
open Go.RowKit

/-- a deque in block b -/
def Dq (w : World) (b : Nat) (L : Row) : Prop := ∃ (cs : Array Value) (f : Nat), w.heap[b]? = some (.cells cs 48 (0, 0)) ∧ cs.size = 258 ∧ cs[256]? = some (.int .i64 f) ∧ cs[257]? = some (.int .i64 L.length) ∧ Ring cs f L
def zeros : Array Value := Array.replicate 256 (.string ⟨#[]⟩) ++ #[.int .i64 0, .int .i64 0]
theorem zero0 : ∀ w, (zeroValue 48).run Try.prog w = .ok (.agg zeros) w := (zero_of_info (P := Try.prog) (n := 258) (by kernel_rfl)).1
theorem zeros_all : ∀ j, j < 256 → ∃ t, zeros[j]? = some (txt t) := fun j hj => ⟨[], by simp [zeros, Array.getElem?_append, hj]⟩
theorem zeros_ring : Ring zeros 0 [] := Ring.void zeros_all
theorem zeros_dq (w : World) : Dq (w.alloc (.cells zeros 48)) w.heap.size [] := ⟨zeros, 0, heap_alloc_new w _, by simp [zeros], by simp [zeros], by simp [zeros], zeros_ring⟩
set_option maxHeartbeats 1000000 in
set_option maxRecDepth 100000 in
/-- New -/
theorem new_any (w : World) : Calls Try.prog 9 #[] w fun e w' => e = .returned (ptr w.heap.size) ∧ w' = w.alloc (.cells zeros 48) := by
  have hb := zero0
  generalize zeros = Z at *
  go_enter Try.func9, Try.ntmps9
  go_wp2
  go_ret
  exact ⟨rfl, rfl⟩
set_option maxHeartbeats 1000000 in
set_option maxRecDepth 100000 in
/-- Len -/
theorem len_any (b : Nat) (L : Row) (w : World) (h : Dq w b L) : Calls Try.prog 17 #[ptr b] w fun e w' => e = .returned (.int .i64 L.length) ∧ Hid (Dq w' b L ∧ Keep (But b) w w') := by
  have H := hid h
  obtain ⟨cs, f, hc, _, _, h2, _⟩ := h
  have c2 : w.cell? ⟨b, 257, none⟩ = some (.int .i64 L.length) := by rw [cell_of_row w b 257 _ _ _ hc]; exact h2
  clear hc h2
  go_enter Try.func17, Try.ntmps17
  go_wp2
  go_ret
  exact ⟨rfl, H.out, Keep.refl _ _⟩
theorem Keep.own {b : Nat} {w w' : World} (h : Keep (But b) w w') (i : Nat) (v : Value) : Keep (But b) w (w'.setCell ⟨b, i, none⟩ v) := keep_setCell h b i v (fun h => h rfl)
theorem Keep.drew {P : Nat → Prop} {w w' : World} (h : Keep P w w') : Keep P w w'.drew := ⟨h.os, h.tape, h.output, h.size, h.block⟩
theorem dq_cells {w : World} {b : Nat} {cs : Array Value} (hc : w.heap[b]? = some (.cells cs 48 (0, 0))) (j : Nat) : w.cell? ⟨b, j, none⟩ = cs[j]? := cell_of_row w b j _ _ _ hc
set_option maxHeartbeats 1000000 in
set_option maxRecDepth 100000 in
/-- where -/
theorem where_any (b f k : Nat) (i : Int) (w : World) (c1 : w.cell? ⟨b, 256, none⟩ = some (.int .i64 f)) (hf : f < 256) (h0 : -1 ≤ i) (h1 : i ≤ 256) (hm : (f : Int) + i + 256 = k ∨ (f : Int) + i = k ∨ (f : Int) + i = k + 256) (hk : k < 256) :
    Calls Try.prog 23 #[ptr b, .int .i64 i] w fun e w' => e = .returned (.int .i64 k) ∧ w' = w := by
  have hm' : ((f : Int) + i + 256).tmod 256 = (k : Int) := by
    rw [Int.tmod_eq_emod_of_nonneg (by omega)]; omega
  have hfz : (f : Int) < 256 := by omega
  clear hm
  go_enter Try.func23, Try.ntmps23
  go_wp2
  go_ret
  exact ⟨rfl, rfl⟩

end Go.Proofs.Ytmlnjcmkengkhaa
