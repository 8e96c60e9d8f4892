/- TableFinds over the contracts. -/
import Derived.Test.YtndmhfhihajbdaaAlive
import Derived.Test.YtndmhfhihajbdaaRCheck
namespace Go.Proofs.Ytndmhfhihajbdaa
open Go.RowKit

theorem sp_cells {w : World} {b : Nat} {t : TypeId} {nm : Nm} {le mo fi la st : Int} {wr : Bool} (h : w.heap[b]? = some (.cells #[txt nm, .int .i64 le, .int .i64 mo, .int .i64 fi, .int .i64 la, .int .i64 st, .bool wr] t (0, 0))) :
    w.cell? ⟨b, 0, none⟩ = some (txt nm) ∧ w.cell? ⟨b, 1, none⟩ = some (.int .i64 le) ∧ w.cell? ⟨b, 2, none⟩ = some (.int .i64 mo) ∧ w.cell? ⟨b, 3, none⟩ = some (.int .i64 fi) ∧ w.cell? ⟨b, 4, none⟩ = some (.int .i64 la) ∧ w.cell? ⟨b, 5, none⟩ = some (.int .i64 st) ∧ w.cell? ⟨b, 6, none⟩ = some (.bool wr) :=
  ⟨cell_of_row _ _ 0 _ _ _ h, cell_of_row _ _ 1 _ _ _ h, cell_of_row _ _ 2 _ _ _ h, cell_of_row _ _ 3 _ _ _ h, cell_of_row _ _ 4 _ _ _ h, cell_of_row _ _ 5 _ _ _ h, cell_of_row _ _ 6 _ _ _ h⟩
set_option maxHeartbeats 8000000 in
set_option maxRecDepth 100000 in
theorem finds_any (l : Nm) (w : World) (hl : l.length ≤ 9223372036854775807) :
    Calls Try.prog 4 #[txt l] w fun e w' => e = .returned (.bool true) ∧ Below w.heap.size w w' := by
  have H1 := hid (find_any l w hl)
  have H2 : Hid (∀ W, Below w.heap.size w W → _) := fun W _ => rfind_any l W hl
  generalize spec (great l) = s at *
  generalize known (great l) = E at *
  obtain ⟨nm, le, mo, fi, la, st, wrt⟩ := s
  go_enter Try.func4, Try.ntmps4
  go_wp2_with fail
  refine H1.out.mono ?_
  rintro _ W1 ⟨rfl, HW1⟩
  have hb2 := below_alloc W1 (.cells #[txt nm, .int .i64 le, .int .i64 mo, .int .i64 fi, .int .i64 la, .int .i64 st, .bool wrt] 25)
  have HB2 := hid (HW1.out.trans (hb2.mono HW1.out.size))
  have HS2 := hid (heap_alloc_new W1 (.cells #[txt nm, .int .i64 le, .int .i64 mo, .int .i64 fi, .int .i64 la, .int .i64 st, .bool wrt] 25))
  have hs2 : (W1.alloc (.cells #[txt nm, .int .i64 le, .int .i64 mo, .int .i64 fi, .int .i64 la, .int .i64 st, .bool wrt] 25)).heap.size = W1.heap.size + 1 := by simp
  have HZ2 := hid hs2
  clear hb2 hs2 H1 HW1
  simp only [Sp.cs] at ⊢
  go_wp2_with fail
  refine (H2.out _ HB2.out).mono ?_
  rintro _ W3 ⟨rfl, HW3⟩
  have HS3 := hid ((HW3.out.block W1.heap.size (by have := HZ2.out; omega)).trans HS2.out)
  have HB3 := hid (HB2.out.trans (HW3.out.mono HB2.out.size))
  have hz3 : W1.heap.size < W3.heap.size := by have := HW3.out.size; have := HZ2.out; omega
  have hb4 := below_alloc W3 (.cells #[txt nm, .int .i64 le, .int .i64 mo, .int .i64 fi, .int .i64 la, .int .i64 st, .bool wrt] 25)
  have HB4 := hid (HB3.out.trans (hb4.mono HB3.out.size))
  have HS4 := hid (heap_alloc_new W3 (.cells #[txt nm, .int .i64 le, .int .i64 mo, .int .i64 fi, .int .i64 la, .int .i64 st, .bool wrt] 25))
  have HS34 := hid ((hb4.block W1.heap.size hz3).trans HS3.out)
  have hs4 : (W3.alloc (.cells #[txt nm, .int .i64 le, .int .i64 mo, .int .i64 fi, .int .i64 la, .int .i64 st, .bool wrt] 25)).heap.size = W3.heap.size + 1 := by simp
  have HZ4 := hid hs4
  clear HW3 HS3 HS2 HB2 HZ2 hb4 hs4 H2 HB3
  simp only [Sp.cs] at ⊢
  go_wp2_with fail
  refine (alive_any _).mono ?_
  rintro _ W5 ⟨rfl, HW5⟩
  have hS5 := (HW5.out.block W1.heap.size (by simp; omega)).trans HS34.out
  have hT5 := (HW5.out.block W3.heap.size (by simp)).trans HS4.out
  obtain ⟨x0, x1, x2, x3, x4, x5, x6⟩ := sp_cells hS5
  obtain ⟨y0, y1, y2, y3, y4, y5, y6⟩ := sp_cells hT5
  have HB5 := hid (HB4.out.trans (HW5.out.mono HB4.out.size))
  clear hS5 hT5 HW5 HZ4 HS34 HS4 HB4
  go_wp2_with fail
  go_ret
  exact ⟨rfl, HB5.out⟩

end Go.Proofs.Ytndmhfhihajbdaa
