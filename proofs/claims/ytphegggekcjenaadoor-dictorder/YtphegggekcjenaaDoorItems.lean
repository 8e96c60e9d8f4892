/- Rows of names and numbers in memory. -/
import Derived.Test.YtphegggekcjenaaDoorSame
import Derived.Test.YtphegggekcjenaaDoorModel
namespace Go.Proofs.YtphegggekcjenaaDoor
open Go.RowKit

/-- a slice is this row of names and numbers; its block is one of P -/
def It (P : Nat → Prop) (w : World) (v : Value) (l : Its Int) : Prop :=
  (v = .slice none 0 0 ∧ l = []) ∨ ∃ g o c, v = .slice (some ⟨g, o, none⟩) l.length c ∧ l.length ≤ c ∧ P g ∧ g < w.heap.size ∧ ∀ i (h : i < l.length), w.cell? ⟨g, o + i * 2, none⟩ = some (txt l[i].1) ∧ w.cell? ⟨g, o + i * 2 + 1, none⟩ = some (.int .i64 l[i].2)
theorem It.nil (P : Nat → Prop) (w : World) : It P w (.slice none 0 0) [] := .inl ⟨rfl, rfl⟩
theorem It.keep {P Q : Nat → Prop} {w w' : World} {v : Value} {l : Its Int} (h : It P w v l) (k : Keep P w w') (hq : ∀ i, P i → Q i) : It Q w' v l := by
  rcases h with h | ⟨g, o, c, h1, h2, h3, h4, h5⟩
  · exact .inl h
  · exact .inr ⟨g, o, c, h1, h2, hq g h3, Nat.lt_of_lt_of_le h4 k.size, fun i hi => ⟨cell_turn (h5 i hi).1 (k.block g h4 h3), cell_turn (h5 i hi).2 (k.block g h4 h3)⟩⟩
theorem It.below {P : Nat → Prop} {w w' : World} {v : Value} {l : Its Int} (h : It P w v l) (k : Below w.heap.size w w') : It P w' v l := h.keep (Keep.of_below k) (fun _ h => h)
theorem It.mono {P Q : Nat → Prop} {w : World} {v : Value} {l : Its Int} (h : It P w v l) (hq : ∀ i, P i → Q i) : It Q w v l := h.keep (Keep.refl _ _) hq
theorem It.shape {P : Nat → Prop} {w : World} {v : Value} {l : Its Int} (h : It P w v l) : ∃ p c, v = .slice p l.length c ∧ l.length ≤ c := by
  rcases h with ⟨rfl, rfl⟩ | ⟨g, o, c, rfl, hc, _⟩
  · exact ⟨none, 0, rfl, Nat.le_refl _⟩
  · exact ⟨_, c, rfl, hc⟩
theorem It.cells {P : Nat → Prop} {w : World} {p : Option Addr} {n c : Nat} {l : Its Int} (h : It P w (.slice p n c) l) (i : Nat) (hi : i < l.length) : ∃ g o, p = some ⟨g, o, none⟩ ∧ g < w.heap.size ∧ P g ∧ ∀ j (hj : j < l.length), w.cell? ⟨g, o + j * 2, none⟩ = some (txt l[j].1) ∧ w.cell? ⟨g, o + j * 2 + 1, none⟩ = some (.int .i64 l[j].2) := by
  rcases h with ⟨_, rfl⟩ | ⟨g, o, c', h1, h2, h3, h4, h5⟩
  · simp at hi
  · injection h1 with h1 _ _
    exact ⟨g, o, h1, h4, h3, h5⟩
theorem It.fresh {P : Nat → Prop} {w : World} {v : Value} {l : Its Int} (h : It P w v l) : It (fun k => P k ∧ k < w.heap.size) w v l := by
  rcases h with h | ⟨g, o, c, h1, h2, h3, h4, h5⟩
  · exact .inl h
  · exact .inr ⟨g, o, c, h1, h2, ⟨h3, h4⟩, h4, h5⟩
/-- the cells of names and numbers -/
def flat (l : Its Int) : List Value := l.flatMap fun x => [txt x.1, .int .i64 x.2]
theorem flat_len (l : Its Int) : (flat l).length = l.length * 2 := by
  induction l with
  | nil => rfl
  | cons x l ih => simp [flat] at ih ⊢; omega
theorem flat_snoc (l : Its Int) (x : Nm × Int) : flat (l ++ [x]) = flat l ++ [txt x.1, .int .i64 x.2] := by simp [flat]
theorem flat_at (l : Its Int) (i : Nat) (h : i < l.length) : (flat l)[i * 2]? = some (txt l[i].1) ∧ (flat l)[i * 2 + 1]? = some (.int .i64 l[i].2) := by
  induction l generalizing i with
  | nil => simp at h
  | cons x l ih =>
    cases i with
    | zero => exact ⟨rfl, rfl⟩
    | succ i =>
      have := ih i (by simpa using h)
      have e : flat (x :: l) = txt x.1 :: .int .i64 x.2 :: flat l := rfl
      rw [e, show (i + 1) * 2 = i * 2 + 1 + 1 by omega]
      simpa using this
/-- a row of the call's own -/
abbrev OwnI (B : Nat) (w : World) (v : Value) (l : Its Int) : Prop := w.ownsRow B 64 2 v l.length (flat l)
theorem OwnI.it {B : Nat} {P : Nat → Prop} {w : World} {v : Value} {l : Its Int} (h : OwnI B w v l) (hp : ∀ k, B ≤ k → P k) : It P w v l := by
  rcases h.2 with ⟨rfl, h0⟩ | ⟨g, cap, cur, rfl, hg, hc, hnc, _⟩
  · exact .inl ⟨rfl, List.length_eq_zero_iff.1 h0⟩
  · refine .inr ⟨g, 0, cap, rfl, hnc, hp g hg, (Array.getElem?_eq_some_iff.1 hc).1, fun i hi => ?_⟩
    obtain ⟨a, b⟩ := flat_at l i hi
    have x := World.ownsRow.cells h (g := g) rfl _ _ a
    have y := World.ownsRow.cells h (g := g) rfl _ _ b
    rw [Go.WideShapes.add_plain] at x y
    exact ⟨x, y⟩
theorem OwnI.shape {B : Nat} {w : World} {v : Value} {l : Its Int} (h : OwnI B w v l) : ∃ p c, v = .slice p l.length c ∧ l.length ≤ c := (h.it (P := fun _ => True) (fun _ _ => trivial)).shape
theorem infoI : (Tryd.prog.info? 64).map (fun i => (i.zero, i.size, i.bytes)) = some (some (.agg #[.string ⟨#[]⟩, .int .i64 0]), 2, 24) := by kernel_rfl
/-- one more behind -/
theorem OwnI.push {B : Nat} {W : World} {v : Value} {l : Its Int} (h : OwnI B W v l) (hB : B ≤ W.heap.size) (x : Nm × Int) (hl : l.length ≤ 1000000) :
    ∃ v' W', (Builtin.append_ #[24, 24] 24 #[v, .slice (some ⟨W.heap.size, 0, none⟩) 1 1]).run Tryd.prog (W.alloc (.cells #[txt x.1, .int .i64 x.2] 64)) = .ok v' W' ∧ OwnI B W' v' (l ++ [x]) ∧ Below B W W' ∧ ∀ k, k < W.heap.size → some k ≠ v.ownBlock → W'.heap[k]? = W.heap[k]? := by
  obtain ⟨i0, hi, hz0, hz1, hz2⟩ := info_parts infoI
  have hba := below_alloc W (.cells #[txt x.1, .int .i64 x.2] 64)
  have hown' := owns_below h hba
  have hnews : ∀ j u, ([txt x.1, .int .i64 x.2] : List Value)[j]? = some u → (W.alloc (.cells #[txt x.1, .int .i64 x.2] 64)).cell? ((⟨W.heap.size, 0, none⟩ : Addr).add j) = some u := fun j u hj => by
    rw [Go.WideShapes.add_plain, cell_of_row _ _ _ _ _ _ (heap_alloc_new W _)]
    simpa using hj
  have hone : ∀ u ∈ ([txt x.1, .int .i64 x.2] : List Value), u.oneCell' = true := by
    intro u hu
    simp only [List.mem_cons, List.not_mem_nil, or_false] at hu
    rcases hu with rfl | rfl <;> rfl
  obtain ⟨v', w', hrun, ho, hgr, _⟩ := run_append_own (P := Tryd.prog) (W.alloc (.cells #[txt x.1, .int .i64 x.2] 64)) B 24 24 64 i0 (.agg #[.string ⟨#[]⟩, .int .i64 0]) 2 24 Tryd.underlying24 hi hz0 hz1 hz2 rfl (by decide) _ _ _ hown' ⟨W.heap.size, 0, none⟩ 1 1 [txt x.1, .int .i64 x.2] rfl hnews hone (by unfold maxLen; omega) (by omega) (by simp; omega)
  refine ⟨v', w', hrun, ?_, ((Below.refl B W).alloc hB _).grown hgr (by simp; omega) (fun k hk => (World.ownsRow.lt h k hk).1), fun k hk hne => (hgr.block k (by simp; omega) hne).trans (hba.block k hk)⟩
  show w'.ownsRow B 64 2 v' (l ++ [x]).length (flat (l ++ [x]))
  rw [List.length_append, flat_snoc]
  exact ho
/-- one more text behind -/
theorem Own.push {B : Nat} {W : World} {v : Value} {l : Row} (h : Own B W v l) (hB : B ≤ W.heap.size) (t : List UInt8) (hl : l.length ≤ 900000) :
    ∃ v' W', (Builtin.append_ #[40, 40] 40 #[v, .slice (some ⟨W.heap.size, 0, none⟩) 1 1]).run Tryd.prog (W.alloc (.cells #[txt t] 9)) = .ok v' W' ∧ Own B W' v' (l ++ [t]) ∧ Below B W W' := by
  have hba := below_alloc W (.cells #[txt t] 9)
  obtain ⟨v', W', h1, h2, h3⟩ := Own.app (B := B) (W := W.alloc (.cells #[txt t] 9)) (v := v) (l := l) (owns_below h hba) (Nat.le_trans hB hba.size) (one_tl (fun _ => True) W t trivial) (by simp; omega)
  exact ⟨v', W', h1, h2, (hba.mono hB).trans h3⟩
theorem Own.shape {B : Nat} {w : World} {v : Value} {l : Row} (h : Own B w v l) : ∃ p c, v = .slice p l.length c ∧ l.length ≤ c := (h.tl (P := fun _ => True) (fun _ _ => trivial)).shape
theorem wpList_append_runs {P : Program} {ops : Array Oper} {rest : List Oper} {o : Oper} {a : Act} {w : World} {Q : Exit → Act → World → Prop} (hw : Region.wanted o (yielded ops a.tmps) = true) (s x : Operand) (t u : TypeId)
    (ho : o.op = .call { callee := .builtin .append, args := #[s, x], argTypes := #[t, u] }) (v y v' : Value) (w' : World) (hs : a.eval s = v) (hx : a.eval x = y)
    (hrun : (Builtin.append_ #[t, u] o.type #[v, y]).run P w = .ok v' w') (h : wpList P ops Q rest (a.put o.dst v') w') : wpList P ops Q (o :: rest) a w := by
  refine wpList_step fun K hK => ?_
  rw [if_pos hw]
  unfold Oper.wp execOp
  simp only [ho, resolve, invoke, builtin, Sem.run_bind, Sem.run_pure, Result.andThen_ok, List.map_toArray, List.map_cons, List.map_nil, hs, hx, hrun]
  exact hK _ _ h

end Go.Proofs.YtphegggekcjenaaDoor
