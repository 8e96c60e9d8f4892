/- ZeroV. -/
import Derived.Below
import Derived.WalkKit
import Derived.Test.YtdicjnkbmlamgabM02
namespace Go.Proofs.Ytdicjnkbmlamgab
open Go.RowKit

set_option maxRecDepth 1000000
theorem len2 (a b : List Value) {n m k : Nat} (h1 : a.length = n) (h2 : b.length = m) (h : n + m = k) : (List.append a b).length = k := by
  show (a ++ b).length = k
  rw [List.length_append]; omega
theorem end2 (a b E : List Value) (h : ∃ c, b = c ++ E) : ∃ c, List.append a b = c ++ E := by
  obtain ⟨c, rfl⟩ := h
  exact ⟨a ++ c, by show a ++ (c ++ E) = _; rw [List.append_assoc]⟩
theorem zview : ∃ Z : List Value, Try.t68.zero = some (.agg Z.toArray) ∧ Z.length = 16450 ∧ ∃ c, Z = c ++ List.replicate 65 (.int .u64 0) := by
  refine ⟨_, rfl, ?_, ?_⟩
  · refine len2 _ _ (n := 8225) (m := 8225) ?_ ?_ (by rfl)
    all_goals refine len2 _ _ (n := 4112) (m := 4113) ?_ ?_ (by rfl)
    case refine_1.refine_1 | refine_2.refine_1 =>
      refine len2 _ _ (n := 2056) (m := 2056) ?_ ?_ (by rfl)
      all_goals refine len2 _ _ (n := 1028) (m := 1028) ?_ ?_ (by rfl)
      all_goals refine len2 _ _ (n := 514) (m := 514) ?_ ?_ (by rfl)
      all_goals kernel_rfl
    all_goals
      refine len2 _ _ (n := 2056) (m := 2057) ?_ ?_ (by rfl)
    case refine_1.refine_2.refine_1 | refine_2.refine_2.refine_1 =>
      refine len2 _ _ (n := 1028) (m := 1028) ?_ ?_ (by rfl)
      all_goals refine len2 _ _ (n := 514) (m := 514) ?_ ?_ (by rfl)
      all_goals kernel_rfl
    all_goals
      refine len2 _ _ (n := 1028) (m := 1029) ?_ ?_ (by rfl)
      · kernel_rfl
      · kernel_rfl
  · iterate 8 refine end2 _ _ _ ?_
    exact ⟨[], by kernel_rfl⟩
/-- the zero value of a view -/
theorem zview_any : ∃ Z : Array Value, Z.size = 16450 ∧ (∀ n, n < 65 → Z[16385 + n]? = some (.int .u64 0)) ∧ ¬ Z = #[] ∧ ∀ w : World, (zeroValue 68).run Try.prog w = .ok (.agg Z) w := by
  obtain ⟨Z, h, h1, c, h2⟩ := zview
  have hs : Z.toArray.size = 16450 := by rw [List.size_toArray, h1]
  refine ⟨Z.toArray, hs, fun n hn => ?_, ne_empty (n := 16449) hs, fun w => ?_⟩
  · have hc : c.length = 16385 := by
      have := congrArg List.length h2
      rw [h1, List.length_append, List.length_replicate] at this
      omega
    rw [List.getElem?_toArray, h2, List.getElem?_append_right (by omega), hc, show 16385 + n - 16385 = n by omega, List.getElem?_replicate, if_pos hn]
  · unfold zeroValue
    rw [Sem.run_bind, Try.typeInfo68]
    simp only [Result.andThen_ok, h]
    rfl

end Go.Proofs.Ytdicjnkbmlamgab
