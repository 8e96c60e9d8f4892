/- PkRef1, VwRight. -/
import Derived.Test.YtbfllifgmlkndaaGreatDoorM22
import Derived.Test.YtbfllifgmlkndaaGreatDoorM17
import Derived.Test.YtbfllifgmlkndaaGreatDoorM18
namespace Go.Proofs.YtbfllifgmlkndaaGreatDoor
open Go.RowKit
open Slot

/-- a row of bytes behind a text -/
theorem Txt.row {B N : Nat} {w1 W : World} {v u : Value} {T S : Bs} (h : Txt B w1 W v T) (h2 : W.ownsRow N 5 1 u S.length (Lib.byteCells S)) (hT : T.length + S.length ≤ 300000) :
    ∃ v' W', (Builtin.append_ #[126, 126] 126 #[v, u]).run Tryz.prog W = .ok v' W' ∧ Txt B w1 W' v' (T ++ S) := by
  obtain ⟨i0, hi, hz0, hz1, hz2⟩ := info_parts info5
  have hs := h.size
  rcases h2.2 with ⟨rfl, h0⟩ | ⟨g, cap, cur, rfl, _⟩
  · obtain rfl : S = [] := List.length_eq_zero_iff.1 h0
    exact ⟨_, _, run_append_owned_none (P := Tryz.prog) _ B 126 126 5 i0 1 Tryz.underlying126 hi _ _ _ h.own, by rw [List.append_nil]; exact h⟩
  · obtain ⟨v', w', hrun, ho, hgr, _⟩ := run_append_own (P := Tryz.prog) W B 126 126 5 i0 (.int .u8 0) 1 1 Tryz.underlying126 hi hz0 hz1 hz2 rfl (by decide) _ _ _ h.own ⟨g, 0, none⟩ S.length cap (Lib.byteCells S) (by rw [Lib.byteCells_length]; omega)
      (fun j u hj => World.ownsRow.cells h2 (g := g) rfl j u hj) (fun u hu => by
        unfold Lib.byteCells at hu
        obtain ⟨b, _, rfl⟩ := List.mem_map.1 hu
        rfl) (by unfold maxLen; omega) (by omega) hs
    refine ⟨v', w', hrun, ?_, ?_, ?_⟩
    · rw [Lib.byteCells_append, List.length_append]
      exact ho
    · exact h.bel.grown hgr hs (fun k hk => (World.ownsRow.lt h.own k hk).1)
    · exact Nat.le_trans hs hgr.size
end Go.Proofs.YtbfllifgmlkndaaGreatDoor
