/- The library's sort of texts, of a row of the call's own. -/
import Derived.Test.YtphegggekcjenaaDoorTags
import Derived.Test.YtphegggekcjenaaDoorShelf
import Derived.Sort.OwnSorted
namespace Go.Proofs.YtphegggekcjenaaDoor
open Go.RowKit Go.Sort

/-- a row behind the sort -/
def srtR (l : Row) : Row := l.mergeSort (fun x y => decide (x ≤ y))
theorem srtR_len (l : Row) : (srtR l).length = l.length := by simp [srtR]
/-- slices.Sort -/
theorem sort_any {B : Nat} {w : World} {g m c : Nat} {l : Row} (h : Own B w (.slice (some ⟨g, 0, none⟩) m c) l) (hB : B ≤ w.heap.size) (hl : l.length ≤ 1000000) (hm : m = l.length) :
    Calls Tryd.prog 36 #[.slice (some ⟨g, 0, none⟩) m c] w fun e w' => e = .returned (.tuple #[]) ∧ Hid (Own B w' (.slice (some ⟨g, 0, none⟩) m c) (srtR l) ∧ Below B w w') := by
  subst hm
  rcases h.2 with ⟨e, _⟩ | ⟨g', cap, cur, e, hbase, hb, h1, h2, h3, h4⟩
  · cases e
  · injection e with e e2 e3
    injection e with e
    injection e with e
    subst e e3
    refine (Tryd.slices_Sort_string g 0 c l w (holds_of_block hb (by simpa using h4)) (Array.getElem?_eq_some_iff.1 hb).1 (by omega)).mono ?_
    rintro e w' ⟨rfl, n, os, rfl⟩
    refine ⟨rfl, ?_, (Below.refl B w).grown (grownBy_sorted _) hB (fun k hk => by injection hk with hk; rw [← hk]; exact hbase)⟩
    have := ownsRow_sorted (n := n) (os := os) (ts := srtR l) (srtR_len l) hbase hb h1 h2 h3
    show World.ownsRow _ B 9 1 _ (srtR l).length _
    rw [srtR_len]
    exact this
theorem le_of_not {a b : Nm} (h : ¬ b < a) : a ≤ b := h
theorem nm_le_trans {a b c : Nm} (h : a ≤ b) (k : b ≤ c) : a ≤ c := List.le_trans h k
/-- sorted, a row is the one of the same texts that rises -/
theorem srtR_eq {l m : Row} (hp : l.Perm m) (hm : m.Pairwise (fun a b => a < b)) : srtR l = m := by
  have h1 : (srtR l).Pairwise (fun a b => decide (a ≤ b) = true) := List.pairwise_mergeSort (le := fun x y : Nm => decide (x ≤ y)) (fun a b c h k => by
    simp only [decide_eq_true_eq] at h k ⊢
    exact nm_le_trans h k) (fun a b => by
    simp only [Bool.or_eq_true, decide_eq_true_eq]
    exact List.le_total a b) l
  have h2 : m.Pairwise (fun a b => decide (a ≤ b) = true) := hm.imp (fun {a b} h => by
    simp only [decide_eq_true_eq]
    exact List.le_of_lt h)
  refine List.Perm.eq_of_pairwise (fun a b _ _ h k => ?_) h1 h2 ((List.mergeSort_perm l _).trans hp)
  simp only [decide_eq_true_eq] at h k
  exact List.le_antisymm h k

end Go.Proofs.YtphegggekcjenaaDoor
