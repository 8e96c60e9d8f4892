/- A byte of the call's own row is written: what the row holds then; what is below stays. -/
import Derived.Test.YtmokokkdllmdoabDoorGrow
namespace Go.Proofs.YtmokokkdllmdoabDoor
open Go.RowKit
open Crc

theorem Own.get {B : Nat} {w : World} {g cap : Nat} {l : List (BitVec 8)} (h : Own B w g cap l) : B ≤ g ∧ l.length ≤ cap ∧ cap ≤ maxLen ∧ ∃ cur, w.heap[g]? = some (.cells cur 5 (0, 0)) ∧ cur.size = cap ∧ cur.toList.take l.length = cellsOf l := by
  rcases h.2 with ⟨hv, _⟩ | ⟨g', c', cur, hv, hb, hh, h1, h2, h3, h4⟩
  · cases hv
  · cases hv
    exact ⟨hb, h1, h2, cur, hh, by omega, by simpa using h4⟩
theorem Own.mk' {B : Nat} {w : World} {g cap : Nat} {l : List (BitVec 8)} {cur : Array Value} (hb : B ≤ g) (hl : l.length ≤ cap) (hm : cap ≤ maxLen) (hh : w.heap[g]? = some (.cells cur 5 (0, 0))) (hs : cur.size = cap) (ht : cur.toList.take l.length = cellsOf l) : Own B w g cap l :=
  ⟨by simp [cellsOf], .inr ⟨g, cap, cur, rfl, hb, hh, hl, hm, by omega, by simpa using ht⟩⟩
theorem Own.drew {B : Nat} {w : World} {g cap : Nat} {l : List (BitVec 8)} (h : Own B w g cap l) : Own B w.drew g cap l := h
theorem Own.frozen {B : Nat} {w : World} {g cap : Nat} {l : List (BitVec 8)} (h : Own B w g cap l) (k : Nat) : w.frozen? ⟨g, k, none⟩ = false := by
  obtain ⟨_, _, _, cur, hh, _⟩ := h.get
  simp [World.frozen?, hh]
theorem Own.cell {B : Nat} {w : World} {g cap : Nat} {l : List (BitVec 8)} (h : Own B w g cap l) (k : Nat) (hk : k < l.length) : w.cell? ⟨g, k, none⟩ = some (.int .u8 ((l.getD k 0#8).toNat : Int)) := by
  obtain ⟨b, off, ha, hc⟩ := h.row.2 (by intro e; rw [e] at hk; exact absurd hk (by simp))
  cases ha
  simpa using hc k hk
theorem Own.set {B : Nat} {w : World} {g cap : Nat} {l : List (BitVec 8)} (h : Own B w g cap l) (k : Nat) (x : BitVec 8) : Own B (w.setCell ⟨g, k, none⟩ (.int .u8 (x.toNat : Int))) g cap (l.set k x) := by
  obtain ⟨hb, h1, h2, cur, hh, h3, h4⟩ := h.get
  have hlt : g < w.heap.size := (Array.getElem?_eq_some_iff.1 hh).1
  refine Own.mk' (cur := cur.setIfInBounds k (.int .u8 (x.toNat : Int))) hb (by simpa using h1) h2 ?_ (by simpa using h3) ?_
  · simp [World.setCell, Array.getElem?_modify, hh]
  · rw [List.length_set, Array.toList_setIfInBounds, List.take_set, h4]
    simp [cellsOf, List.map_set]
end Go.Proofs.YtmokokkdllmdoabDoor
