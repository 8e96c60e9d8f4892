/- Points in memory; the document's Right. -/
import Derived.Test.YtenncfohifekhaaDoorCore
import Derived.Test.YtenncfohifekhaaDoorPModel
import Derived.WalkLawsBesides
import Derived.Deep.WholeRow
import Derived.Deep.RegionLaw
namespace Go.Proofs.YtenncfohifekhaaDoor
open Go.RowKit

/-- a point's value -/
abbrev pv (x y : Int) : Value := .agg #[.int .i64 x, .int .i64 y]
/-- a point in a block -/
abbrev pc (x y : Int) : Obj := .cells #[.int .i64 x, .int .i64 y] 23
theorem infoP (x y : Value) : (Tryd.prog.info? 23).map (·.size) = some (#[x, y] : Array Value).size := by
  show _ = some 2
  kernel_rfl
theorem pt_facts {w : World} {b : Nat} {x y : Value} (h : w.heap[b]? = some (.cells #[x, y] 23 (0, 0))) :
    (w.cell? ⟨b, 0, none⟩ = some x ∧ w.cell? ⟨b, 1, none⟩ = some y) ∧ w.frozen? ⟨b, 0, none⟩ = false ∧ w.frozen? ⟨b, 1, none⟩ = false :=
  ⟨⟨cell_of_row w b 0 _ _ _ h, cell_of_row w b 1 _ _ _ h⟩, frozen_of_row w b 0 _ _ h, frozen_of_row w b 1 _ _ h⟩
theorem ret_pt {fn : Func} {p : Tmp} (h : fn.results = #[.cell p 23]) {tmps : Array Value} {w : World} {b : Nat} {x y : Value} (hp : tmps.getD p undef = .pointer (some ⟨b, 0, none⟩)) (hB : w.heap[b]? = some (.cells #[x, y] 23 (0, 0))) :
    (results fn tmps).run Tryd.prog w = .ok (.agg #[x, y]) w :=
  results_cell_row h tmps w b 23 #[x, y] (0, 0) _ hp hB Tryd.underlying23 rfl (infoP x y)
theorem ret_tel {fn : Func} {p q : Tmp} (h : fn.results = #[.cell p 23, .tmp q]) {tmps : Array Value} {w : World} {b : Nat} {x y v : Value} (hp : tmps.getD p undef = .pointer (some ⟨b, 0, none⟩)) (hq : tmps.getD q undef = v) (hB : w.heap[b]? = some (.cells #[x, y] 23 (0, 0))) :
    (results fn tmps).run Tryd.prog w = .ok (.tuple #[.agg #[x, y], v]) w := by
  have hp' : tmps[p]?.getD undef = .pointer (some ⟨b, 0, none⟩) := by simpa using hp
  have hq' : tmps[q]?.getD undef = v := by simpa using hq
  simp [results, h, hp', hq', asAddr, run_loadVar_row w b 23 23 #[x, y] (0, 0) _ hB Tryd.underlying23 rfl (infoP x y)]
set_option maxHeartbeats 1000000 in
set_option maxRecDepth 100000 in
/-- ref Right -/
theorem rright_any (x y : Int) (w : World) : Calls Tryd.prog 17 #[pv x y] w fun e w' => e = .returned (.bool (rt x y)) ∧ Hid (Below w.heap.size w w') := by
  by_cases h1 : -1048576 ≤ x
  · by_cases h2 : x ≤ 1048576
    · by_cases h3 : -1048576 ≤ y
      · by_cases h4 : y ≤ 1048576
        · rw [show rt x y = true from rt_iff.2 ⟨h1, h2, h3, h4⟩]
          go_enter Tryd.func17, Tryd.ntmps17
          go_wp2_with fail
          go_ret
          exact ⟨rfl, below_alloc w _⟩
        · rw [show rt x y = false by simp [rt, h4]]
          go_enter Tryd.func17, Tryd.ntmps17
          go_wp2_with fail
          go_ret
          exact ⟨rfl, below_alloc w _⟩
      · rw [show rt x y = false by simp [rt, h3]]
        go_enter Tryd.func17, Tryd.ntmps17
        go_wp2_with fail
        go_ret
        exact ⟨rfl, below_alloc w _⟩
    · rw [show rt x y = false by simp [rt, h2]]
      go_enter Tryd.func17, Tryd.ntmps17
      go_wp2_with fail
      go_ret
      exact ⟨rfl, below_alloc w _⟩
  · rw [show rt x y = false by simp [rt, h1]]
    go_enter Tryd.func17, Tryd.ntmps17
    go_wp2_with fail
    go_ret
    exact ⟨rfl, below_alloc w _⟩
/-- an answer's value -/
abbrev tv (t : Tel) : Value := .tuple #[pv t.x t.y, .int .i64 t.e]
theorem al2 (w : World) (a b : Obj) : Below w.heap.size w ((w.alloc a).alloc b) ∧ ((w.alloc a).alloc b).heap[w.heap.size]? = some a ∧ ((w.alloc a).alloc b).heap[w.heap.size + 1]? = some b ∧ ((w.alloc a).alloc b).heap.size = w.heap.size + 2 := by
  refine ⟨(below_alloc w a).trans ((below_alloc _ b).mono (by simp)), ?_, ?_, by simp⟩
  · rw [heap_alloc_old _ _ (by simp)]; exact heap_alloc_new w a
  · have := heap_alloc_new (w.alloc a) b
    rwa [show (w.alloc a).heap.size = w.heap.size + 1 by simp] at this
theorem al3 (w : World) (a b c : Obj) : Below w.heap.size w (((w.alloc a).alloc b).alloc c) ∧ (((w.alloc a).alloc b).alloc c).heap[w.heap.size]? = some a ∧ (((w.alloc a).alloc b).alloc c).heap[w.heap.size + 1]? = some b ∧ (((w.alloc a).alloc b).alloc c).heap[w.heap.size + 2]? = some c ∧ (((w.alloc a).alloc b).alloc c).heap.size = w.heap.size + 3 := by
  obtain ⟨h1, h2, h3, h4⟩ := al2 w a b
  refine ⟨h1.trans ((below_alloc _ c).mono (by omega)), ?_, ?_, ?_, by simp⟩
  · rw [heap_alloc_old _ _ (by omega)]; exact h2
  · rw [heap_alloc_old _ _ (by omega)]; exact h3
  · have := heap_alloc_new ((w.alloc a).alloc b) c
    rwa [h4] at this
theorem part_mul {a c : Int} (a0 : -1048576 ≤ a) (a1 : a ≤ 1048576) (c0 : -1048576 ≤ c) (c1 : c ≤ 1048576) : -1099511627776 ≤ a * c ∧ a * c ≤ 1099511627776 := by
  have h : (a * c).natAbs ≤ 1048576 * 1048576 := by rw [Int.natAbs_mul]; exact Nat.mul_le_mul (by omega) (by omega)
  omega

end Go.Proofs.YtenncfohifekhaaDoor
