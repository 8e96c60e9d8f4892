/- VwRef9. -/
import Derived.Laws.MakeOwn
import Derived.Test.YtdicjnkbmlamgabM21
namespace Go.Proofs.Ytdicjnkbmlamgab
open Go.RowKit
open Slot

theorem setCells_other {b k : Nat} (hk : k ≠ b) : ∀ (vs : List Value) (o : Nat) (w : World), (w.setCells b o vs).heap[k]? = w.heap[k]?
  | [], _, _ => rfl
  | v :: r, o, w => by
    rw [World.setCells, setCells_other hk r (o + 1) _]
    exact Below.heap_setCell _ _ _ _ hk
theorem setCells_heap {b : Nat} {t : TypeId} : ∀ (vs : List Value) (o : Nat) (w : World) (C : Array Value), w.heap[b]? = some (.cells C t (0, 0)) → ∃ C', (w.setCells b o vs).heap[b]? = some (.cells C' t (0, 0))
  | [], _, _, C, h => ⟨C, h⟩
  | v :: r, o, w, C, h => by
    rw [World.setCells]
    exact setCells_heap r (o + 1) _ _ (heap_setCell_same w b o C t v h)
theorem setCells_below {B b : Nat} {a : World} (hb : B ≤ b) : ∀ (vs : List Value) (o : Nat) (w : World), Below B a w → Below B a (w.setCells b o vs)
  | [], _, _, h => h
  | v :: r, o, w, h => by
    rw [World.setCells]
    exact setCells_below hb r (o + 1) _ (h.setCell (p := ⟨b, o, none⟩) hb v)
theorem Nd.there {w : World} {g : Nat} {E : Nat → Nat} {K : Nat → Nat → Bool} (h : Nd w g E K) {n : Nat} (hn : n < 64) : w.there g (n * 257) 257 := fun j hj => by
  refine ⟨?_, h.frozen _⟩
  have := h.range hn j
  obtain ⟨v, hv⟩ : ∃ v, (ndCells (E n) (K n)).toList[j]? = some v := by
    have hl : j < (ndCells (E n) (K n)).toList.length := by rw [Array.length_toList, ndCells_size]; exact hj
    exact ⟨_, List.getElem?_eq_getElem hl⟩
  rw [this v hv]
  rfl
theorem nd_store {w : World} {g : Nat} {E : Nat → Nat} {K : Nat → Nat → Bool} (h : Nd w g E K) {n : Nat} (hn : n < 64) (e : Nat) (S : Nat → Bool) : Nd (w.setCells g (n * 257) (ndCells e S).toList) g (fun m => if m = n then e else E m) (fun m => if m = n then S else K m) := by
  have hl : (ndCells e S).toList.length = 257 := by rw [Array.length_toList, ndCells_size]
  have hth := h.there hn
  have hsame := World.rangeAt_setCells_same w g (n * 257) (ndCells e S).toList (by rw [hl]; exact hth)
  have hh := h
  obtain ⟨C, h1, _⟩ := h
  obtain ⟨C', h3⟩ := setCells_heap (ndCells e S).toList (n * 257) w C h1
  have out : ∀ j, (j < n * 257 ∨ n * 257 + 257 ≤ j) → C'[j]? = w.cell? ⟨g, j, none⟩ := fun j hj => by
    rw [← cell_of_row _ g j C' _ _ h3]
    exact World.cell?_setCells_out g _ _ w ⟨g, j, none⟩ (fun _ _ => by rw [hl]; exact hj)
  have inn : ∀ j v, (ndCells e S)[j]? = some v → C'[n * 257 + j]? = some v := fun j v hv => by
    rw [← cell_of_row _ g _ C' _ _ h3]
    exact hsame j v (by rw [Array.getElem?_toList]; exact hv)
  refine ⟨C', h3, fun m hm => ?_⟩
  by_cases em : m = n
  · subst em
    simp only [if_true]
    refine ⟨by have := inn 0 _ (ndCells_zero e S); rwa [Nat.add_zero] at this, fun i hi => ?_⟩
    have := inn (1 + i) _ (ndCells_get e S i hi)
    rwa [← Nat.add_assoc] at this
  · simp only [if_neg em]
    refine ⟨by rw [out _ (by omega)]; exact hh.ep hm, fun i hi => by rw [out _ (by omega)]; exact hh.wd hm hi⟩
theorem zeroV : ((Try.prog.info? 73).bind (fun i => i.zero)).map (fun z => z.cells) = some Try.zeroCells73 := by kernel_rfl
def madeN : Array Value := madeCells (ndCells 0 fun _ => false) 16448
theorem make_nodes (u : World) : (Instr.makeSlice 31 (.int .i64 64) (.int .i64 64)).run Try.prog u = .ok (.slice (some ⟨u.heap.size, 0, none⟩) 64 64) (u.alloc (.cells madeN 73)) := by
  have hi := infoNd
  cases hi0 : Try.prog.info? 73 with
  | none => rw [hi0] at hi; cases hi
  | some i0 =>
    rw [hi0] at hi
    simp only [Option.map_some, Option.some.injEq, Prod.mk.injEq] at hi
    obtain ⟨hz0, hz1, hz2⟩ := hi
    obtain ⟨z, hz⟩ := Option.isSome_iff_exists.1 hz0
    have hzc := zeroV
    rw [hi0, Option.bind_some, hz, zeroNd] at hzc
    have hzc2 : z.cells = ndCells 0 fun _ => false := by simpa using hzc
    have h := run_make (P := Try.prog) u 31 73 i0 z Try.underlying31 hi0 hz .i64 .i64 64 64 (by omega) (by omega) (by rw [hz2]; omega) (by omega)
    rw [hz1, hzc2] at h
    exact h
theorem nd_made (u : World) : Nd (u.alloc (.cells madeN 73)) u.heap.size (fun _ => 0) (fun _ _ => false) := by
  have gen : ∀ (Z : Array Value), Z.size = 257 → ∀ j, j < 16448 → (madeCells Z 16448)[j]? = Z[j % 257]? := fun Z hs j hj => by
    unfold madeCells
    rw [Array.getElem?_map, Array.getElem?_range, if_pos hj, hs]
    have hm : j % 257 < Z.size := by rw [hs]; exact Nat.mod_lt _ (by decide)
    show some (Z[j % 257]!) = Z[j % 257]?
    rw [Array.getElem?_eq_getElem hm, getElem!_pos Z _ hm]
  have key : ∀ j, j < 16448 → madeN[j]? = (ndCells 0 fun _ => false)[j % 257]? := fun j hj => gen _ (ndCells_size 0 _) j hj
  refine ⟨_, heap_alloc_new u _, fun n hn => ⟨?_, fun i hi => ?_⟩⟩
  · rw [key _ (by omega), show n * 257 % 257 = 0 by omega]
    exact ndCells_zero 0 _
  · rw [key _ (by omega), show (n * 257 + 1 + i) % 257 = 1 + i by omega]
    exact ndCells_get 0 _ i hi

end Go.Proofs.Ytdicjnkbmlamgab
