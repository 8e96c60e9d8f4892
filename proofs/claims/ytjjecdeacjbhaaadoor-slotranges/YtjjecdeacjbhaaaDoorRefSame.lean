/- Two rows of ranges that are the same are told so: ref Same. -/
import Derived.Test.YtjjecdeacjbhaaaDoorRefRanges
namespace Go.Proofs.YtjjecdeacjbhaaaDoor
open Go.RowKit
open Slot

theorem eq_range (x y : Int) (w : World) : (Op.equalIn 10000 54 (.agg #[.int .i64 x, .int .i64 y]) (.agg #[.int .i64 x, .int .i64 y])).run Tryd.prog w = .ok true w := by
  have u3 := Tryd.underlying3
  have a3 := Tryd.isAgg3
  have z3 := Tryd.sizeOf3
  rw [show (10000 : Nat) = 9999 + 1 from rfl, run_equalIn_struct w 9999 54 _ _ (by kernel_rfl) (by kernel_rfl)]
  go_simp
set_option maxHeartbeats 1000000 in
set_option maxRecDepth 100000 in
theorem same_core (b1 b2 cap1 cap2 : Nat) (l : List (Nat × Nat)) (w : World) (hl : l.length ≤ 16384) (hv : ∀ p ∈ l, p.1 ≤ p.2 ∧ p.2 < top)
    (h1 : ∀ j (h : j < l.length), w.cell? ⟨b1, j * 2, none⟩ = some (.int .i64 (l[j].1 : Int)) ∧ w.cell? ⟨b1, j * 2 + 1, none⟩ = some (.int .i64 (l[j].2 : Int)))
    (h2 : ∀ j (h : j < l.length), w.cell? ⟨b2, j * 2, none⟩ = some (.int .i64 (l[j].1 : Int)) ∧ w.cell? ⟨b2, j * 2 + 1, none⟩ = some (.int .i64 (l[j].2 : Int))) :
    Calls Tryd.prog 22 #[.slice (some ⟨b1, 0, none⟩) l.length cap1, .slice (some ⟨b2, 0, none⟩) l.length cap2] w fun e w' => e = .returned (.bool true) ∧ Below w.heap.size w w' := by
  have H1 := hid h1
  have H2 := hid h2
  have HV := hid hv
  clear h1 h2 hv
  have hee : ((l.length : Int) != (l.length : Int)) = false := by simp
  go_enter Tryd.func22, Tryd.ntmps22
  go_wp2
  go_loopw [5] (fun i W => ∃ k : Nat, k ≤ l.length ∧ i = .int .i64 k ∧ Hid (∃ d, W = w.drewN d)) (fun i _ => l.length - (intOf i).toNat)
  case atStart => exact ⟨0, Nat.zero_le _, rfl, ⟨0, rfl⟩⟩
  case round =>
    obtain ⟨k, hk, rfl, hd⟩ := hrel
    obtain ⟨d, rfl⟩ := hd.out
    by_cases hlt : k < l.length
    · obtain ⟨a1, a2⟩ := H1.out k hlt
      obtain ⟨c1, c2⟩ := H2.out k hlt
      have heq := eq_range (l[k].1 : Int) (l[k].2 : Int)
      obtain ⟨v1, v2⟩ := HV.out l[k] (List.getElem_mem hlt)
      unfold top at v2
      generalize l[k] = p at a1 a2 c1 c2 heq v1 v2
      obtain ⟨f, t⟩ := p
      simp only at a1 a2 c1 c2 heq v1 v2
      go_wp2_with fail
      go_quiet ((fail))
      go_wp2
      go_roundw
      case rel => exact ⟨k + 1, by omega, by go_num, ⟨_, rfl⟩⟩
      case measure => simp [intOf]; omega
    · go_wp2
      go_ret
      exact ⟨rfl, Below.drewN (Below.refl _ _) _⟩

set_option maxHeartbeats 1000000 in
theorem same_none (a1 a2 : Option Addr) (cap1 cap2 : Nat) (w : World) :
    Calls Tryd.prog 22 #[.slice a1 0 cap1, .slice a2 0 cap2] w fun e w' => e = .returned (.bool true) ∧ Below w.heap.size w w' := by
  go_enter Tryd.func22, Tryd.ntmps22
  go_wp2
  refine wp_loop_rounds 1 ?_
  rw [rounds_succ]
  go_wp2
  go_ret
  exact ⟨rfl, Below.refl _ _⟩
theorem owns_cells {w : World} {B : Nat} {l : List (Nat × Nat)} {v : Value} (h : w.ownsRow B 54 2 v l.length (flat l)) (hne : l ≠ []) : ∃ g cap, v = .slice (some ⟨g, 0, none⟩) l.length cap ∧ ∀ j (hj : j < l.length), w.cell? ⟨g, j * 2, none⟩ = some (.int .i64 (l[j].1 : Int)) ∧ w.cell? ⟨g, j * 2 + 1, none⟩ = some (.int .i64 (l[j].2 : Int)) := by
  rcases h.2 with ⟨_, h0⟩ | ⟨g, cap, cur, rfl, hg, hh, h1, h2, h3, h4⟩
  · exact absurd (List.length_eq_zero_iff.1 h0) hne
  · refine ⟨g, cap, rfl, fun j hj => ?_⟩
    obtain ⟨f1, f2⟩ := flat_get l j hj
    have key : ∀ i u, (flat l)[i]? = some u → w.cell? ⟨g, i, none⟩ = some u := fun i u hu => by
      rw [cell_of_row w g i _ _ _ hh]
      rw [← h4, List.getElem?_take] at hu
      split at hu
      · simpa using hu
      · cases hu
    exact ⟨key _ _ f1, key _ _ f2⟩
/-- Same of two rows of the call's own that are the same -/
theorem same_own {w : World} {B1 B2 : Nat} {l : List (Nat × Nat)} {v1 v2 : Value} (h1 : w.ownsRow B1 54 2 v1 l.length (flat l)) (h2 : w.ownsRow B2 54 2 v2 l.length (flat l)) (hl : l.length ≤ 16384) (hv : ∀ p ∈ l, p.1 ≤ p.2 ∧ p.2 < top) :
    Calls Tryd.prog 22 #[v1, v2] w fun e w' => e = .returned (.bool true) ∧ Below w.heap.size w w' := by
  by_cases hne : l = []
  · subst hne
    obtain ⟨a1, c1, rfl⟩ : ∃ a cap, v1 = .slice a 0 cap := by
      rcases h1.2 with ⟨rfl, _⟩ | ⟨g, cap, cur, rfl, _⟩
      · exact ⟨none, 0, rfl⟩
      · exact ⟨_, cap, rfl⟩
    obtain ⟨a2, c2, rfl⟩ : ∃ a cap, v2 = .slice a 0 cap := by
      rcases h2.2 with ⟨rfl, _⟩ | ⟨g, cap, cur, rfl, _⟩
      · exact ⟨none, 0, rfl⟩
      · exact ⟨_, cap, rfl⟩
    exact same_none a1 a2 c1 c2 w
  · obtain ⟨g1, c1, rfl, k1⟩ := owns_cells h1 hne
    obtain ⟨g2, c2, rfl, k2⟩ := owns_cells h2 hne
    exact same_core g1 g2 c1 c2 l w hl hv k1 k2

end Go.Proofs.YtjjecdeacjbhaaaDoor
