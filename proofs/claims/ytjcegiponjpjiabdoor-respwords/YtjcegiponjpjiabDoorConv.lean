/- A text made bytes: what the conversion lays. -/
import Derived.Test.YtjcegiponjpjiabDoorAlive
import Derived.Laws.IdiomStrings
namespace Go.Proofs.YtjcegiponjpjiabDoor
open Go.RowKit

theorem conv_bytes (l : List UInt8) (w : World) : ∃ cap W, (convert 9 26 (.string ⟨l.toArray⟩)).run Tryd.prog w = .ok (.slice (some ⟨w.heap.size, 0, none⟩) l.length cap) W ∧ At W (some ⟨w.heap.size, 0, none⟩) l ∧ Below w.heap.size w W ∧ l.length ≤ cap ∧ w.heap.size < W.heap.size := by
  have hsz : (⟨l.toArray⟩ : ByteArray).size = l.length := by simp [ByteArray.size]
  have h := run_bytes_of_string (P := Tryd.prog) w 9 26 5 ⟨l.toArray⟩ Tryd.underlying9 Tryd.underlying26 Tryd.underlying5
  rw [hsz] at h
  refine ⟨_, _, h, fun _ => ⟨w.heap.size, 0, rfl, fun i hi => ?_, _, _, heap_alloc_new w.drew _⟩, ?_, grownCap_ge w l.length 0 5, by simp⟩
  · rw [Nat.zero_add]
    refine (cell_of_row _ w.heap.size i _ _ _ (heap_alloc_new w.drew _)).trans ?_
    simp [bytesRow, Array.getElem?_append, hi]
  · exact (below_drawn (Below.refl _ _) 1).alloc (Nat.le_refl _) _

end Go.Proofs.YtjcegiponjpjiabDoor
