/- VpDo. -/
import Derived.Test.YtbfllifgmlkndaaGreatDoorM37
import Derived.Test.YtbfllifgmlkndaaGreatDoorM30
import Derived.Test.YtbfllifgmlkndaaGreatDoorM31
namespace Go.Proofs.YtbfllifgmlkndaaGreatDoor
open Go.RowKit
open Slot

theorem seen_not (v : Vw) (p : Pk) : (!seen v p) = (!rightP p || decide (4611686018427387904 < p.cur) || p.frm == (v.self : Int) || clI p == (v.self : Int)) := by
  unfold seen clI
  have hb : decide (p.cur ≤ big) = !decide (4611686018427387904 < p.cur) := by
    have e : big = 4611686018427387904 := rfl
    by_cases c : p.cur ≤ big
    · rw [decide_eq_true c, decide_eq_false (by omega)]; rfl
    · rw [decide_eq_false c, decide_eq_true (by omega)]; rfl
  rw [hb]
  cases rightP p
  · simp
  · cases decide (4611686018427387904 < p.cur)
    · by_cases c1 : p.frm = (v.self : Int)
      · simp [c1]
      · by_cases c2 : p.kind = 3
        · by_cases c3 : p.of_ = (v.self : Int)
          · simp [c2, c3]
          · simp [c1, c2, c3]
        · simp [c1, c2]
    · simp
theorem cl_of {p : Pk} (h : rightP p = true) : clI p = (ofN p : Int) := by
  obtain ⟨_, h2, _, h4, _⟩ := right_of h
  unfold clI ofN
  split
  · exact h4.symm
  · exact h2.symm
theorem ptake_any (b : Nat) (v : Vw) (p : Pk) (w : World) (hV : VB w b v) (hO : v.Ok 1000000) : Calls Tryz.prog 44 #[.pointer (some ⟨b, 0, none⟩), .agg (pkCells p)] w (PTakeP b v p w) := by
  refine ptake_core b v.self p.cur p.epoch (ofN p) v p (rightP p) (!seen v p) p.kind p.frm (clI p) w hV rfl rfl rfl rfl rfl rfl rfl (seen_not v p) (fun h => by simpa using h) (fun h => ?_) hO
  have hs : seen v p = true := by simpa using h
  have hr := (seen_right hs).1
  exact ⟨hs, cl_of hr, rfl, (right_of hr).1⟩
/-- the program's New, of what may not be -/
theorem pnew_no (self : Int) (e : Nat) (S : Nat → Bool) (c : Int) (w : World) (h : newE self e = c) (hc : c ≠ 0) : Calls Tryz.prog 24 #[.int .i64 self, .agg (cellsOf S), .int .u64 (e : Int)] w fun r w' => r = .returned (.tuple #[.pointer none, .int .i64 c]) ∧ Below w.heap.size w w' := by
  have HW0 := hid (below_alloc w (.cells (cellsOf S) 24))
  have HN := hid (isnode_any self)
  generalize cellsOf S = CX at *
  cases hn : nodeB self with
  | false =>
    rw [hn] at HN
    obtain rfl : c = 150 := by
      rw [← h]; unfold newE
      exact if_neg (of_decide_eq_false hn)
    clear h hc
    go_enter Tryz.func24, Tryz.ntmps24
    go_wp2_with fail
    refine (HN.out _).mono ?_; rintro r w2 ⟨rfl, rfl⟩
    go_wp2_with fail
    go_ret2
    exact ⟨rfl, HW0.out⟩
  | true =>
    rw [hn] at HN
    have hm := of_decide_eq_true hn
    have h2 : (4611686018427387904 : Int) < (e : Int) := by
      have := h
      unfold newE at this
      rw [if_pos hm] at this
      by_cases c' : e ≤ 4611686018427387904
      · rw [if_pos c'] at this; exact absurd this.symm hc
      · omega
    obtain rfl : c = 1 := by
      rw [← h]; unfold newE
      rw [if_pos hm, if_neg (by omega)]
    clear h hc hm
    go_enter Tryz.func24, Tryz.ntmps24
    go_wp2_with fail
    refine (HN.out _).mono ?_; rintro r w2 ⟨rfl, rfl⟩
    go_wp2_with fail
    go_ret2
    exact ⟨rfl, HW0.out⟩

end Go.Proofs.YtbfllifgmlkndaaGreatDoor
