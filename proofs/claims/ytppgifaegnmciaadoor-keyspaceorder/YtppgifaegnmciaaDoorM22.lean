/- DECut. -/
import Derived.Laws.CopyRow
import Derived.Deep.WholeRow
import Derived.Test.YtppgifaegnmciaaDoorM17
namespace Go.Proofs.YtppgifaegnmciaaDoor.Dc.DE
open Go.RowKit

theorem clear_pair (w : World) (ty : TypeId) (gr o c : Nat) (cur : Array Value) (hg : w.heap[gr]? = some (.cells cur 73 (0, 0))) (ho : o + 9 ≤ cur.size) :
    (Builtin.clear_ #[74] ty #[.slice (some ⟨gr, o, none⟩) 1 c]).run Tryd.prog w = .ok (.tuple #[]) (w.setRow gr (cur.toList.take o ++ ([.string ⟨#[]⟩, .string ⟨#[]⟩, .int .i64 0, .string ⟨#[]⟩, .slice none 0 0, .slice none 0 0, .int .i64 0, .int .i64 0, .int .i64 0] : List Value) ++ cur.toList.drop (o + 9)).toArray) := by
  have hst := run_storeCells_at (P := Tryd.prog) gr o 73 [.string ⟨#[]⟩, .string ⟨#[]⟩, .int .i64 0, .string ⟨#[]⟩, .slice none 0 0, .slice none 0 0, .int .i64 0, .int .i64 0, .int .i64 0] 0 cur w hg (by simpa using ho) (by
    intro v hv
    simp only [List.mem_cons, List.not_mem_nil, or_false] at hv
    rcases hv with rfl | rfl | rfl | rfl | rfl | rfl | rfl | rfl | rfl <;> rfl)
  have hz : (Builtin.zeroCells (Value.agg #[.string ⟨#[]⟩, .string ⟨#[]⟩, .int .i64 0, .string ⟨#[]⟩, .slice none 0 0, .slice none 0 0, .int .i64 0, .int .i64 0, .int .i64 0]).cells 1).toList = [.string ⟨#[]⟩, .string ⟨#[]⟩, .int .i64 0, .string ⟨#[]⟩, .slice none 0 0, .slice none 0 0, .int .i64 0, .int .i64 0, .int .i64 0] := by kernel_rfl
  simp only [Nat.add_zero] at hst
  simp [Builtin.clear_, run_underlying Tryd.underlying74, hz, hst]
/-- the pairs behind a place, moved one ahead -/
theorem move_run (W : World) (gr k m c : Nat) (cur : Array Value) (news : List Value) (hg : W.heap[gr]? = some (.cells cur 73 (0, 0))) (hsz : cur.size = c * 9) (hk : k < m) (hm : m ≤ c) (hl : news.length = (m - (k + 1)) * 9) (hnews : ∀ j u, news[j]? = some u → cur[(k + 1) * 9 + j]? = some u) (h1 : ∀ u ∈ news, u.oneCell' = true) (A : Addr) (hA : A = ⟨gr, (k + 1) * 9, none⟩ ∨ news = []) (d : Nat) :
    (Builtin.append_ #[74, 74] 74 #[.slice (some ⟨gr, 0, none⟩) k c, .slice (some A) (m - (k + 1)) d]).run Tryd.prog W = .ok (.slice (some ⟨gr, 0, none⟩) (k + (m - (k + 1))) c) (W.setRow gr (cur.toList.take (k * 9) ++ news ++ cur.toList.drop (k * 9 + news.length)).toArray) := by
  obtain ⟨i0, hi, hz0, hz1, hz2⟩ := info_parts infoP
  have := run_append_room (P := Tryd.prog) W 74 74 73 i0 Tryd.underlying74 hi gr k c cur hg A (m - (k + 1)) d news (by rw [hz1]; exact hl) (fun j u hj => by
    rcases hA with rfl | rfl
    · rw [Go.WideShapes.add_plain, cell_of_row _ _ _ _ _ _ hg]
      exact hnews j u hj
    · simp at hj) h1 (by omega) (by rw [hz1, hl, hsz]; omega)
  rw [hz1] at this
  exact this
theorem cut_list (cur : List Value) (x y : List Value) (s : List Value) (p q : Nat) (h : cur.take p = x ++ s ++ y) (hp : p ≤ cur.length) (z : List Value) (hz : z.length = s.length) (hq : q = (x ++ y).length) :
    (((cur.take x.length ++ y ++ cur.drop (x.length + y.length)).take q ++ z ++ (cur.take x.length ++ y ++ cur.drop (x.length + y.length)).drop (q + z.length)).take q = x ++ y) ∧
    ((cur.take x.length ++ y ++ cur.drop (x.length + y.length)).take q ++ z ++ (cur.take x.length ++ y ++ cur.drop (x.length + y.length)).drop (q + z.length)).length = cur.length := by
  subst hq
  have hpl : p = x.length + s.length + y.length := by
    have := congrArg List.length h
    simp at this
    omega
  have hx : cur.take x.length = x := by
    have h1 : (cur.take p).take x.length = x := by rw [h]; simp
    rw [List.take_take, Nat.min_eq_left (by omega)] at h1
    exact h1
  rw [hx]
  have e : (x ++ y ++ cur.drop (x.length + y.length)).take (x ++ y).length = x ++ y := by
    rw [List.take_append_of_le_length (Nat.le_refl _), List.take_length]
  rw [e]
  refine ⟨?_, ?_⟩
  · rw [List.append_assoc, List.take_append_of_le_length (Nat.le_refl _), List.take_length]
  · simp
    omega
end Go.Proofs.YtppgifaegnmciaaDoor.Dc.DE
