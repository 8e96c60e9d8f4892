/- DECut. -/
import Derived.Laws.CopyRow
import Derived.Deep.WholeRow
import Derived.Test.YtcbncdigejjcpaaGreatDoorM26
namespace Go.Proofs.YtcbncdigejjcpaaGreatDoor.Dc.DE
open Go.RowKit

theorem clear_pair (w : World) (ty : TypeId) (gr o c : Nat) (cur : Array Value) (hg : w.heap[gr]? = some (.cells cur 90 (0, 0))) (ho : o + 9 ≤ cur.size) :
    (Builtin.clear_ #[88] ty #[.slice (some ⟨gr, o, none⟩) 1 c]).run Tryz.prog w = .ok (.tuple #[]) (w.setRow gr (cur.toList.take o ++ ([.string ⟨#[]⟩, .string ⟨#[]⟩, .int .i64 0, .string ⟨#[]⟩, .slice none 0 0, .slice none 0 0, .int .i64 0, .int .i64 0, .int .i64 0] : List Value) ++ cur.toList.drop (o + 9)).toArray) := by
  have hst := run_storeCells_at (P := Tryz.prog) gr o 90 [.string ⟨#[]⟩, .string ⟨#[]⟩, .int .i64 0, .string ⟨#[]⟩, .slice none 0 0, .slice none 0 0, .int .i64 0, .int .i64 0, .int .i64 0] 0 cur w hg (by simpa using ho) (by
    intro v hv
    simp only [List.mem_cons, List.not_mem_nil, or_false] at hv
    rcases hv with rfl | rfl | rfl | rfl | rfl | rfl | rfl | rfl | rfl <;> rfl)
  have hz : (Builtin.zeroCells (Value.agg #[.string ⟨#[]⟩, .string ⟨#[]⟩, .int .i64 0, .string ⟨#[]⟩, .slice none 0 0, .slice none 0 0, .int .i64 0, .int .i64 0, .int .i64 0]).cells 1).toList = [.string ⟨#[]⟩, .string ⟨#[]⟩, .int .i64 0, .string ⟨#[]⟩, .slice none 0 0, .slice none 0 0, .int .i64 0, .int .i64 0, .int .i64 0] := by kernel_rfl
  simp only [Nat.add_zero] at hst
  simp [Builtin.clear_, run_underlying Tryz.underlying88, hz, hst]
/-- the pairs behind a place, moved one ahead -/
theorem move_run (W : World) (gr k m c : Nat) (cur : Array Value) (news : List Value) (hg : W.heap[gr]? = some (.cells cur 90 (0, 0))) (hsz : cur.size = c * 9) (hk : k < m) (hm : m ≤ c) (hl : news.length = (m - (k + 1)) * 9) (hnews : ∀ j u, news[j]? = some u → cur[(k + 1) * 9 + j]? = some u) (h1 : ∀ u ∈ news, u.oneCell' = true) (A : Addr) (hA : A = ⟨gr, (k + 1) * 9, none⟩ ∨ news = []) (d : Nat) :
    (Builtin.append_ #[88, 88] 88 #[.slice (some ⟨gr, 0, none⟩) k c, .slice (some A) (m - (k + 1)) d]).run Tryz.prog W = .ok (.slice (some ⟨gr, 0, none⟩) (k + (m - (k + 1))) c) (W.setRow gr (cur.toList.take (k * 9) ++ news ++ cur.toList.drop (k * 9 + news.length)).toArray) := by
  obtain ⟨i0, hi, hz0, hz1, hz2⟩ := info_parts infoP
  have := run_append_room (P := Tryz.prog) W 88 88 90 i0 Tryz.underlying88 hi gr k c cur hg A (m - (k + 1)) d news (by rw [hz1]; exact hl) (fun j u hj => by
    rcases hA with rfl | rfl
    · rw [Go.WideShapes.add_plain, cell_of_row _ _ _ _ _ _ hg]
      exact hnews j u hj
    · simp at hj) h1 (by omega) (by rw [hz1, hl, hsz]; omega)
  rw [hz1] at this
  exact this
theorem cut_list (cur : List Value) (x y : List Value) (s : List Value) (p q : Nat) (h : cur.take p = x ++ s ++ y) (hp : p ≤ cur.length) (z : List Value) (hz : z.length = s.length) (hq : q = (x ++ y).length) :
    (((cur.take x.length ++ y ++ cur.drop (x.length + y.length)).take q ++ z ++ (cur.take x.length ++ y ++ cur.drop (x.length + y.length)).drop (q + z.length)).take q = x ++ y) ∧
    ((cur.take x.length ++ y ++ cur.drop (x.length + y.length)).take q ++ z ++ (cur.take x.length ++ y ++ cur.drop (x.length + y.length)).drop (q + z.length)).length = cur.length := by
  subst hq
  have hpl : p = x.length + s.length + y.length := by
    have := congrArg List.length h
    simp at this
    omega
  have hx : cur.take x.length = x := by
    have h1 : (cur.take p).take x.length = x := by rw [h]; simp
    rw [List.take_take, Nat.min_eq_left (by omega)] at h1
    exact h1
  rw [hx]
  have e : (x ++ y ++ cur.drop (x.length + y.length)).take (x ++ y).length = x ++ y := by
    rw [List.take_append_of_le_length (Nat.le_refl _), List.take_length]
  rw [e]
  refine ⟨?_, ?_⟩
  · rw [List.append_assoc, List.take_append_of_le_length (Nat.le_refl _), List.take_length]
  · simp
    omega
set_option maxHeartbeats 4000000 in
set_option maxRecDepth 100000 in
/-- slices.Delete -/
theorem cut_any {w : World} {gr m c k : Nat} {l a b : Its E8} {x : Nm × E8} (hR : Room w (.slice (some ⟨gr, 0, none⟩) m c) l) (hml : m = l.length) (he : l = a ++ x :: b) (hk : k = a.length) :
    Calls Tryz.prog 142 #[.slice (some ⟨gr, 0, none⟩) m c, .int .i64 k, .int .i64 ((k : Int) + 1)] w fun e w' => e = .returned (.slice (some ⟨gr, 0, none⟩) (m - 1) c) ∧ Hid (Room w' (.slice (some ⟨gr, 0, none⟩) (m - 1) c) (a ++ b) ∧ w'.os = w.os ∧ w'.tape = w.tape ∧ w'.output = w.output ∧ w'.heap.size = w.heap.size ∧ ∀ j, j ≠ gr → w'.heap[j]? = w.heap[j]?) := by
  subst hml
  rcases hR.2 with ⟨e, _⟩ | ⟨g, cap, cur, e, h0, hg, hn, hm, hs, ht⟩
  · cases e
  · injection e with e e2 e3
    injection e with e
    injection e with e
    subst e e3
    clear e2
    have hlen : l.length = k + 1 + b.length := by rw [he, hk]; simp; omega
    have hfl : cur.toList.take (l.length * 9) = flat a ++ (txt x.1 :: x.2.cells.toList) ++ flat b := by rw [ht, he, flat_app, flat_cons]; simp
    have hcl : cur.toList.length = c * 9 := by simpa using hs
    have hnews : ∀ j u, (flat b)[j]? = some u → cur[(k + 1) * 9 + j]? = some u := fun j u hj => by
      have hjl := (List.getElem?_eq_some_iff.1 hj).1
      rw [flat_len] at hjl
      have h1 : (cur.toList.take (l.length * 9))[(k + 1) * 9 + j]? = some u := by
        rw [hfl, List.getElem?_append_right (by simp [flat_len]; omega)]
        simp only [List.length_append, flat_len, List.length_cons, List.length_nil]
        rw [show (k + 1) * 9 + j - (a.length * 9 + (0 + 1 + 1 + 1 + 1 + 1 + 1 + 1 + 1 + 1)) = j by omega]
        exact hj
      rw [List.getElem?_take_of_lt (by omega)] at h1
      simpa using h1
    have hlb : (flat b).length = (l.length - (k + 1)) * 9 := by rw [flat_len]; omega
    obtain ⟨hA1, hA2⟩ := cut_list cur.toList (flat a) (flat b) (txt x.1 :: x.2.cells.toList) (l.length * 9) ((l.length - 1) * 9) hfl (by rw [hcl]; omega) [.string ⟨#[]⟩, .string ⟨#[]⟩, .int .i64 0, .string ⟨#[]⟩, .slice none 0 0, .slice none 0 0, .int .i64 0, .int .i64 0, .int .i64 0] rfl (by simp [flat_len]; omega)
    rw [flat_len a, ← hk] at hA1 hA2
    have hrun := fun A hA d => move_run w.drew gr k l.length c cur (flat b) hg hs (by omega) hn hlb hnews (flat_one b) A hA d
    obtain ⟨C1, hC1⟩ : ∃ C1, C1 = (cur.toList.take (k * 9) ++ flat b ++ cur.toList.drop (k * 9 + (flat b).length)).toArray := ⟨_, rfl⟩
    have hC1l : C1.toList = cur.toList.take (k * 9) ++ flat b ++ cur.toList.drop (k * 9 + (flat b).length) := by rw [hC1]
    rw [← hC1l] at hA1 hA2
    rw [← hC1] at hrun
    have hW1 : (w.drew.setRow gr C1).heap[gr]? = some (.cells C1 90 (0, 0)) := setRow_heap w.drew gr cur C1 _ _ hg
    have hC1s : C1.size = c * 9 := by
      have := congrArg List.length hC1l
      simp [flat_len] at this
      omega
    have hclr := fun ty d => clear_pair (w.drew.setRow gr C1) ty gr ((l.length - 1) * 9) d C1 hW1 (by rw [hC1s]; omega)
    obtain ⟨C2, hC2⟩ : ∃ C2, C2 = (C1.toList.take ((l.length - 1) * 9) ++ ([.string ⟨#[]⟩, .string ⟨#[]⟩, .int .i64 0, .string ⟨#[]⟩, .slice none 0 0, .slice none 0 0, .int .i64 0, .int .i64 0, .int .i64 0] : List Value) ++ C1.toList.drop ((l.length - 1) * 9 + 9)).toArray := ⟨_, rfl⟩
    rw [← hC2] at hclr
    have HEnd : Hid (Room ((w.drew.setRow gr C1).setRow gr C2) (.slice (some ⟨gr, 0, none⟩) (l.length - 1) c) (a ++ b) ∧ ((w.drew.setRow gr C1).setRow gr C2).os = w.os ∧ ((w.drew.setRow gr C1).setRow gr C2).tape = w.tape ∧ ((w.drew.setRow gr C1).setRow gr C2).output = w.output ∧ ((w.drew.setRow gr C1).setRow gr C2).heap.size = w.heap.size ∧ ∀ j, j ≠ gr → ((w.drew.setRow gr C1).setRow gr C2).heap[j]? = w.heap[j]?) := by
      have hab : (a ++ b).length = l.length - 1 := by simp; omega
      refine ⟨⟨by rw [flat_len], .inr ⟨gr, c, C2, by rw [hab], h0, setRow_heap _ gr C1 C2 _ _ hW1, by omega, hm, ?_, ?_⟩⟩, rfl, rfl, rfl, by simp, fun j hj => ?_⟩
      · rw [hC2, List.size_toArray]
        exact hA2.trans hcl
      · rw [hab, hC2, flat_app]
        exact hA1
      · rw [setRow_other _ _ _ _ hj, setRow_other _ _ _ _ hj]; rfl
    have HCl := hid hclr
    have HRun := hid hrun
    have hbn : c = k + 1 → flat b = [] := fun e => by
      have : b = [] := List.eq_nil_of_length_eq_zero (by omega)
      rw [this]; rfl
    obtain ⟨Y, hY⟩ : ∃ Y, l.length = Y + 1 := ⟨l.length - 1, by omega⟩
    have hkY : k ≤ Y := by omega
    unfold maxLen at hm
    rw [hY] at HEnd HCl HRun hn ⊢
    simp only [Nat.add_sub_cancel] at HEnd HCl HRun ⊢
    have HRn : Hid (∀ A : Addr, (A = ⟨gr, (k + 1) * 9, none⟩ ∨ flat b = []) → ∀ d, (Builtin.append_ #[88, 88] 88 #[.slice (some ⟨gr, 0, none⟩) k c, .slice (some A) (Y - k) d]).run Tryz.prog w.drew = .ok (.slice (some ⟨gr, 0, none⟩) Y c) (w.drew.setRow gr C1)) := fun A hA d => by
      have := HRun.out A hA d
      rwa [show k + (Y + 1 - (k + 1)) = Y by omega, show Y + 1 - (k + 1) = Y - k by omega] at this
    have hkz : (k : Int) ≤ (Y : Int) := by omega
    have hYc : (Y : Int) + 1 ≤ (c : Int) := by omega
    have hcz : (c : Int) ≤ 9223372036854775807 := by omega
    have hYn : Y + 1 ≤ c := hn
    have hk1 : k + 1 ≤ c := by omega
    have hkc : k ≤ c := by omega
    have hYne : ¬ c = Y := by omega
    clear HRun hclr hrun hA1 hA2 hC1 hC1l hC2 hC1s hW1 hlb hnews hcl hfl ht hs hg hR h0 hlen he hk hY hn hm
    have hk0 : (0 : Int) ≤ (k : Int) + 1 := by omega
    obtain ⟨A, hA, hsrc⟩ : ∃ A : Addr, (if c = k + 1 then some (⟨gr, 0, none⟩ : Addr) else some ⟨gr, (k + 1) * 9, none⟩) = some A ∧ Hid (A = ⟨gr, (k + 1) * 9, none⟩ ∨ flat b = []) := by
      by_cases h : c = k + 1
      · exact ⟨⟨gr, 0, none⟩, by rw [if_pos h], .inr (hbn h)⟩
      · exact ⟨_, by rw [if_neg h], .inl rfl⟩
    have HR1 := hid (HRn.out A hsrc.out (c - (k + 1)))
    have hcl2 := fun ty => HCl.out ty (c - Y)
    clear HRn HCl hbn hsrc
    go_enter Tryz.func142, Tryz.ntmps142
    go_wp2_with fail
    go_region_law (first | (refine step_append_run rfl _ _ 88 rfl _ _ _ _ rfl rfl HR1.out ?_))
    all_goals go_wp2_with fail
    all_goals go_ret
    all_goals exact ⟨rfl, HEnd⟩

end Go.Proofs.YtcbncdigejjcpaaGreatDoor.Dc.DE
