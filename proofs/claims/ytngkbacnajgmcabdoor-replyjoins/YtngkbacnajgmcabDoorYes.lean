/- Whether replies are the same, told outright. -/
import Derived.Test.YtngkbacnajgmcabDoorRefSame
namespace Go.Proofs.YtngkbacnajgmcabDoor
open Go.RowKit

theorem same_yes {d1 d2 : Nat} {v1 v2 : Value} {r : Rep} {w : World} (h1 : Rp All w d1 v1 r) (h2 : Rp All w d2 v2 r) : Calls Tryd.prog 16 #[v1, v2] w fun e w' => e = .returned (.bool true) ∧ Below w.heap.size w w' := by
  refine (same_any v1 v2 r r w h1 h2).mono ?_
  rintro e w' ⟨b, rfl, hh⟩
  obtain rfl := hh.out.1.2 rfl
  exact ⟨rfl, hh.out.2⟩
theorem same_no {d1 d2 : Nat} {v1 v2 : Value} {r1 r2 : Rep} {w : World} (hne : r1 ≠ r2) (h1 : Rp All w d1 v1 r1) (h2 : Rp All w d2 v2 r2) : Calls Tryd.prog 16 #[v1, v2] w fun e w' => e = .returned (.bool false) ∧ Below w.heap.size w w' := by
  refine (same_any v1 v2 r1 r2 w h1 h2).mono ?_
  rintro e w' ⟨b, rfl, hh⟩
  cases b
  · exact ⟨rfl, hh.out.2⟩
  · exact absurd (hh.out.1.1 rfl) hne
theorem rsame_yes {d1 d2 : Nat} {v1 v2 : Value} {r : Rep} {w : World} (h1 : Rp All w d1 v1 r) (h2 : Rp All w d2 v2 r) : Calls Tryd.prog 6 #[v1, v2] w fun e w' => e = .returned (.bool true) ∧ Below w.heap.size w w' := by
  refine (rsame_any v1 v2 r r w h1 h2).mono ?_
  rintro e w' ⟨b, rfl, hh⟩
  obtain rfl := hh.out.1.2 rfl
  exact ⟨rfl, hh.out.2⟩
theorem rsame_no {d1 d2 : Nat} {v1 v2 : Value} {r1 r2 : Rep} {w : World} (hne : r1 ≠ r2) (h1 : Rp All w d1 v1 r1) (h2 : Rp All w d2 v2 r2) : Calls Tryd.prog 6 #[v1, v2] w fun e w' => e = .returned (.bool false) ∧ Below w.heap.size w w' := by
  refine (rsame_any v1 v2 r1 r2 w h1 h2).mono ?_
  rintro e w' ⟨b, rfl, hh⟩
  cases b
  · exact ⟨rfl, hh.out.2⟩
  · exact absurd (hh.out.1.1 rfl) hne

end Go.Proofs.YtngkbacnajgmcabDoor
