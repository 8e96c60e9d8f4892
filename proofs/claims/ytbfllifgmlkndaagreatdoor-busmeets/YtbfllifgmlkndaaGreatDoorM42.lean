/- VpDo. -/
import Derived.Test.YtbfllifgmlkndaaGreatDoorM40
import Derived.Test.YtbfllifgmlkndaaGreatDoorM38
import Derived.Test.YtbfllifgmlkndaaGreatDoorM33
namespace Go.Proofs.YtbfllifgmlkndaaGreatDoor
open Go.RowKit
open Slot

theorem seen_not (v : Vw) (p : Pk) : (!seen v p) = (!rightP p || decide (4611686018427387904 < p.cur) || p.frm == (v.self : Int) || clI p == (v.self : Int)) := by
  unfold seen clI
  have hb : decide (p.cur ≤ big) = !decide (4611686018427387904 < p.cur) := by
    have e : big = 4611686018427387904 := rfl
    by_cases c : p.cur ≤ big
    · rw [decide_eq_true c, decide_eq_false (by omega)]; rfl
    · rw [decide_eq_false c, decide_eq_true (by omega)]; rfl
  rw [hb]
  cases rightP p
  · simp
  · cases decide (4611686018427387904 < p.cur)
    · by_cases c1 : p.frm = (v.self : Int)
      · simp [c1]
      · by_cases c2 : p.kind = 3
        · by_cases c3 : p.of_ = (v.self : Int)
          · simp [c2, c3]
          · simp [c1, c2, c3]
        · simp [c1, c2]
    · simp
theorem cl_of {p : Pk} (h : rightP p = true) : clI p = (ofN p : Int) := by
  obtain ⟨_, h2, _, h4, _⟩ := right_of h
  unfold clI ofN
  split
  · exact h4.symm
  · exact h2.symm
theorem ptake_any (b : Nat) (v : Vw) (p : Pk) (w : World) (hV : VB w b v) (hO : v.Ok 1000000) : Calls Tryz.prog 44 #[.pointer (some ⟨b, 0, none⟩), .agg (pkCells p)] w (PTakeP b v p w) := by
  refine ptake_core b v.self p.cur p.epoch (ofN p) v p (rightP p) (!seen v p) p.kind p.frm (clI p) w hV rfl rfl rfl rfl rfl rfl rfl (seen_not v p) (fun h => by simpa using h) (fun h => ?_) hO
  have hs : seen v p = true := by simpa using h
  have hr := (seen_right hs).1
  exact ⟨hs, cl_of hr, rfl, (right_of hr).1⟩
end Go.Proofs.YtbfllifgmlkndaaGreatDoor
