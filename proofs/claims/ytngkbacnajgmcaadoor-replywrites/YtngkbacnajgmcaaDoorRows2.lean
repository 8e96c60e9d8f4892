/- Rows of replies that a call makes, one behind the other. -/
import Derived.Test.YtngkbacnajgmcaaDoorRead
namespace Go.Proofs.YtngkbacnajgmcaaDoor
open Go.RowKit

theorem infoR4 : (Tryd.prog.info? 24).map (fun i => (i.zero, i.size, i.bytes)) = some (some (.agg #[.int .i64 0, .int .i64 0, .string ⟨#[]⟩, .slice none 0 0]), 4, 56) := by kernel_rfl
/-- an append leaves the row where it was, or lays a new one -/
theorem append_where (w : World) (base : Nat) (v : Value) (n : Nat) (xs : List Value) (hown : w.ownsRow base 24 4 v n xs)
    (a : Addr) (news : List Value) (hl : news.length = 4) (hnews : ∀ j u, news[j]? = some u → w.cell? (a.add j) = some u) (h1 : ∀ u ∈ news, u.oneCell' = true) (hn : n ≤ 1000000000000) (v' : Value) (w' : World)
    (hrun : (Builtin.append_ #[22, 22] 22 #[v, .slice (some a) 1 1]).run Tryd.prog w = .ok v' w') : v'.ownBlock = v.ownBlock ∨ v'.ownBlock = some w.heap.size := by
  obtain ⟨i0, hi, hz0, hz1, hz2⟩ := info_parts infoR4
  have hl' : news.length = 1 * i0.size := by rw [hz1, hl]
  rcases hown.2 with ⟨rfl, rfl⟩ | ⟨g, cap, cur, rfl, hbg, hg, hnc, hcm, hcs, htake⟩
  · have hr := run_append_nil (P := Tryd.prog) w 22 22 24 i0 _ Tryd.underlying22 hi hz0 a 1 1 news hl' hnews (by omega) (by omega) (by rw [hz2]; omega)
    rw [hr] at hrun
    injection hrun with hrun _
    rw [← hrun]
    exact .inr rfl
  · by_cases hroom : n + 1 ≤ cap
    · have hr := run_append_room (P := Tryd.prog) w 22 22 24 i0 Tryd.underlying22 hi g n cap cur hg a 1 1 news hl' hnews h1 hroom (by rw [hl, hcs, hz1]; omega)
      rw [hr] at hrun
      injection hrun with hrun _
      rw [← hrun]
      exact .inl rfl
    · have holds : ∀ j u, xs[j]? = some u → w.cell? ((⟨g, 0, none⟩ : Addr).add j) = some u := hown.cells (g := g) rfl
      have hr := run_append_grow (P := Tryd.prog) w 22 22 24 i0 _ Tryd.underlying22 hi hz0 ⟨g, 0, none⟩ n cap xs (by rw [hz1]; exact hown.1) holds a 1 1 news hl' hnews (by omega) (by omega) (growslice_fits (by omega) (by rw [hz2]; omega))
      rw [hr] at hrun
      injection hrun with hrun _
      rw [← hrun]
      exact .inr rfl
/-- a row of a call's own, with the replies that it holds -/
def Rws (B : Nat) (W : World) (d : Nat) (v : Value) (acc : List Rep) : Prop :=
  ∃ xs, W.ownsRow B 24 4 v acc.length xs ∧ ∀ j (h : j < acc.length), ∃ q c, xs[j * 4]? = some (.int .i64 acc[j].kind) ∧ xs[j * 4 + 1]? = some (.int .i64 acc[j].int) ∧ xs[j * 4 + 2]? = some (.string ⟨acc[j].text.toArray⟩) ∧ xs[j * 4 + 3]? = some (.slice q acc[j].list.length c) ∧
    Rp (fun b => B ≤ b ∧ some b ≠ v.ownBlock) W d (.agg #[.int .i64 acc[j].kind, .int .i64 acc[j].int, .string ⟨acc[j].text.toArray⟩, .slice q acc[j].list.length c]) acc[j]
theorem Rws.nil (B : Nat) (W : World) (d : Nat) : Rws B W d (.slice none 0 0) [] := ⟨[], World.ownsRow_nil W B _ _, fun j h => absurd h (by simp)⟩
theorem Rws.below {B d : Nat} {W W' : World} {v : Value} {acc : List Rep} (h : Rws B W d v acc) (hb : Below W.heap.size W W') : Rws B W' d v acc := by
  obtain ⟨xs, h1, h2⟩ := h
  refine ⟨xs, owns_below h1 hb, fun j hj => ?_⟩
  obtain ⟨q, c, a0, a1, a2, a3, a4⟩ := h2 j hj
  exact ⟨q, c, a0, a1, a2, a3, a4.below hb (Nat.le_refl _)⟩
theorem Rws.shape {B d : Nat} {W : World} {v : Value} {acc : List Rep} (h : Rws B W d v acc) : ∃ p c, v = .slice p acc.length c := by
  obtain ⟨xs, h1, _⟩ := h
  rcases h1.2 with ⟨rfl, h0⟩ | ⟨g, cap, cur, rfl, _⟩
  · exact ⟨none, 0, by rw [h0]⟩
  · exact ⟨_, _, rfl⟩
theorem Rws.own_lt {B d : Nat} {W : World} {v : Value} {acc : List Rep} (h : Rws B W d v acc) {g : Nat} (hg : some g = v.ownBlock) : B ≤ g ∧ g < W.heap.size := by
  obtain ⟨xs, h1, _⟩ := h
  have := World.ownsRow.lt h1 g hg.symm
  exact this
theorem Rws.row {B d : Nat} {W : World} {p : Option Addr} {n c : Nat} {acc : List Rep} (h : Rws B W d (.slice p n c) acc) : n = acc.length ∧ RowOf (fun b => B ≤ b) W (Rp (fun b => B ≤ b) W d) p acc := by
  obtain ⟨xs, h1, h2⟩ := h
  rcases h1.2 with ⟨e, h0⟩ | ⟨g, cap, cur, e, hBg, _⟩
  · injection e with _ e2 _
    exact ⟨by omega, fun hne => absurd (List.eq_nil_of_length_eq_zero h0) hne⟩
  · injection e with e1 e2 e3
    subst e1 e2 e3
    refine ⟨rfl, fun hne => ⟨g, 0, rfl, hBg, fun i hi => ?_⟩⟩
    obtain ⟨q, c', a0, a1, a2, a3, a4⟩ := h2 i hi
    have cell : ∀ j u, xs[j]? = some u → W.cell? ⟨g, j, none⟩ = some u := fun j u hu => by
      have := World.ownsRow.cells h1 (g := g) rfl j u hu
      rwa [Go.WideShapes.add_plain, Nat.zero_add] at this
    simp only [Nat.zero_add]
    exact ⟨q, c', cell _ _ a0, cell _ _ a1, cell _ _ a2, cell _ _ a3, a4.turn (fun b hb _ => ⟨hb.1, rfl⟩) (Nat.le_refl _)⟩
theorem Rws.push {B d : Nat} {W : World} {v : Value} {acc : List Rep} (h : Rws B W d v acc) {r : Rep} {q : Option Addr} {c : Nat} (hB : B ≤ W.heap.size) (hl : acc.length ≤ 1000000000000)
    (hr : Rp (fun b => B ≤ b ∧ some b ≠ v.ownBlock) W d (.agg #[.int .i64 r.kind, .int .i64 r.int, .string ⟨r.text.toArray⟩, .slice q r.list.length c]) r) :
    ∃ v' W', (Builtin.append_ #[22, 22] 22 #[v, .slice (some ⟨W.heap.size, 0, none⟩) 1 1]).run Tryd.prog (W.alloc (.cells #[.int .i64 r.kind, .int .i64 r.int, .string ⟨r.text.toArray⟩, .slice q r.list.length c] 24)) = .ok v' W' ∧ Rws B W' d v' (acc ++ [r]) ∧ Below B W W' := by
  obtain ⟨i0, hi, hz0, hz1, hz2⟩ := info_parts infoR4
  obtain ⟨xs, h1, h2⟩ := h
  generalize hob : (.cells #[.int .i64 r.kind, .int .i64 r.int, .string ⟨r.text.toArray⟩, .slice q r.list.length c] 24 : Obj) = ob
  have hba := below_alloc W ob
  have hown' := owns_below h1 hba
  have hnews : ∀ j u, ([.int .i64 r.kind, .int .i64 r.int, .string ⟨r.text.toArray⟩, .slice q r.list.length c] : List Value)[j]? = some u → (W.alloc ob).cell? ((⟨W.heap.size, 0, none⟩ : Addr).add j) = some u := fun j u hj => by
    rw [Go.WideShapes.add_plain, cell_of_row _ _ _ _ _ _ ((heap_alloc_new W ob).trans (congrArg some hob.symm))]
    simpa using hj
  have hone : ∀ u ∈ ([.int .i64 r.kind, .int .i64 r.int, .string ⟨r.text.toArray⟩, .slice q r.list.length c] : List Value), u.oneCell' = true := by
    intro u hu
    simp only [List.mem_cons, List.not_mem_nil, or_false] at hu
    rcases hu with rfl | rfl | rfl | rfl <;> rfl
  obtain ⟨v', w', hrun, ho, hgr, _⟩ := run_append_own (P := Tryd.prog) (W.alloc ob) B 22 22 24 i0 (.agg #[.int .i64 0, .int .i64 0, .string ⟨#[]⟩, .slice none 0 0]) 4 56 Tryd.underlying22 hi hz0 hz1 hz2 rfl (by decide) _ _ _ hown' ⟨W.heap.size, 0, none⟩ 1 1 [.int .i64 r.kind, .int .i64 r.int, .string ⟨r.text.toArray⟩, .slice q r.list.length c] rfl hnews hone (by unfold maxLen; omega) (by omega) (by simp; omega)
  have hwh := append_where (W.alloc ob) B v acc.length xs hown' ⟨W.heap.size, 0, none⟩ _ rfl hnews hone hl v' w' hrun
  have hk : ∀ b, (B ≤ b ∧ some b ≠ v.ownBlock) → b < W.heap.size → (B ≤ b ∧ some b ≠ v'.ownBlock) ∧ w'.heap[b]? = W.heap[b]? := fun b hb hlt => by
    refine ⟨⟨hb.1, ?_⟩, ?_⟩
    · rcases hwh with e | e
      · rw [e]; exact hb.2
      · rw [e]; intro e2; injection e2 with e2; simp at e2; omega
    · rw [hgr.block b (by simp; omega) hb.2]; exact hba.block b hlt
  refine ⟨v', w', hrun, ⟨xs ++ [.int .i64 r.kind, .int .i64 r.int, .string ⟨r.text.toArray⟩, .slice q r.list.length c], by rw [List.length_append]; exact ho, fun j hj => ?_⟩, ((Below.refl B W).alloc hB _).grown hgr (by simp; omega) (fun k hk => (World.ownsRow.lt h1 k hk).1)⟩
  have hxl : xs.length = acc.length * 4 := h1.1
  rw [List.length_append, List.length_singleton] at hj
  by_cases hin : j < acc.length
  · obtain ⟨q', c', a0, a1, a2, a3, a4⟩ := h2 j hin
    rw [List.getElem_append_left hin]
    refine ⟨q', c', ?_, ?_, ?_, ?_, a4.turn hk (Nat.le_refl _)⟩
    all_goals rw [List.getElem?_append_left (by omega)]; assumption
  · obtain rfl : j = acc.length := by omega
    rw [List.getElem_append_right (by omega)]
    simp only [Nat.sub_self, List.getElem_cons_zero]
    refine ⟨q, c, ?_, ?_, ?_, ?_, hr.turn hk (Nat.le_refl _)⟩
    all_goals rw [List.getElem?_append_right (by omega), hxl]
    · rw [Nat.sub_self]; rfl
    · rw [Nat.add_sub_cancel_left]; rfl
    · rw [Nat.add_sub_cancel_left]; rfl
    · rw [Nat.add_sub_cancel_left]; rfl

end Go.Proofs.YtngkbacnajgmcaaDoor
