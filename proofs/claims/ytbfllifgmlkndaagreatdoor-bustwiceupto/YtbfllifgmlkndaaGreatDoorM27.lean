/- VwRow. -/
import Derived.Great.BuildSlice
import Derived.Test.YtbfllifgmlkndaaGreatDoorM15
import Derived.Test.YtbfllifgmlkndaaGreatDoorM26
namespace Go.Proofs.YtbfllifgmlkndaaGreatDoor
open Go.RowKit
open Slot

/-- the cells of a row of packets -/
def flatP (L : List Pk) : List Value := L.flatMap fun p => (pkCells p).toList
theorem flatP_get : ∀ (L : List Pk) (j : Nat) (h : j < L.length) (i : Nat), i < 261 → (flatP L)[j * 261 + i]? = (pkCells L[j]).toList[i]?
  | [], j, h, _, _ => absurd h (Nat.not_lt_zero _)
  | p :: L, 0, _, i, hi => by
    show ((pkCells p).toList ++ flatP L)[0 * 261 + i]? = _
    rw [List.getElem?_append_left (by rw [Array.length_toList, pkCells_size]; omega)]
    simp
  | p :: L, j + 1, h, i, hi => by
    show ((pkCells p).toList ++ flatP L)[(j + 1) * 261 + i]? = _
    rw [List.getElem?_append_right (by rw [Array.length_toList, pkCells_size]; omega), Array.length_toList, pkCells_size, show (j + 1) * 261 + i - 261 = j * 261 + i by omega]
    exact flatP_get L j (by simpa using h) i hi
/-- a row of packets in blocks from B on -/
def OwnP (B : Nat) (W : World) (v : Value) (L : List Pk) : Prop := W.ownsRow B 53 261 v L.length (flatP L)
theorem ownp_nil (B : Nat) (W : World) : OwnP B W (.slice none 0 0) [] := World.ownsRow_nil _ _ _ _
theorem infoPkt : (Tryz.prog.info? 53).map (fun i => (i.zero.isSome, i.size, i.bytes)) = some (true, 261, 2088) := by kernel_rfl
theorem zeroPkV : ((Tryz.prog.info? 53).bind (fun i => i.zero)).map (fun z => z.cells.size) = some 261 := by kernel_rfl
theorem OwnP.shape {B : Nat} {W : World} {v : Value} {L : List Pk} (h : OwnP B W v L) : ∃ a c, v = .slice a L.length c ∧ (∀ x, a = some x → x.block < W.heap.size ∧ B ≤ x.block) ∧ Pks W a L := by
  rcases h.2 with ⟨rfl, h0⟩ | ⟨g, cap, cur, rfl, hg, hh, h1, h2, h3, h4⟩
  · refine ⟨none, 0, by rw [h0], (fun x e => by cases e), fun hne => absurd (List.length_eq_zero_iff.1 h0) hne⟩
  · refine ⟨_, cap, rfl, fun x e => ?_, fun hne => ⟨g, 0, rfl, (Array.getElem?_eq_some_iff.1 hh).1, fun j hj i v hv => ?_⟩⟩
    · cases e
      exact ⟨(Array.getElem?_eq_some_iff.1 hh).1, hg⟩
    · have hi : i < 261 := by
        have := (List.getElem?_eq_some_iff.1 hv).1
        rwa [Array.length_toList, pkCells_size] at this
      rw [cell_of_row W g _ cur _ _ hh, Nat.zero_add]
      have hc := congrArg (fun l : List Value => l[j * 261 + i]?) h4
      simp only [List.getElem?_take] at hc
      have hjl : j * 261 + i < L.length * 261 := by
        have : (j + 1) * 261 ≤ L.length * 261 := Nat.mul_le_mul_right _ hj
        omega
      rw [if_pos hjl, flatP_get L j hj i hi] at hc
      simpa using hc.trans hv
theorem OwnP.below {B : Nat} {W W' : World} {v : Value} {L : List Pk} (h : OwnP B W v L) (hb : Below W.heap.size W W') : OwnP B W' v L := by
  refine ⟨h.1, ?_⟩
  rcases h.2 with h | ⟨g, cap, cur, h1, h2, h3, h4⟩
  · exact .inl h
  · exact .inr ⟨g, cap, cur, h1, h2, (hb.block g (Array.getElem?_eq_some_iff.1 h3).1).trans h3, h4⟩
theorem OwnP.setRow {B b : Nat} {W : World} {v : Value} {L : List Pk} (h : OwnP B W v L) (hb : b < B) (C : Array Value) : OwnP B (W.setRow b C) v L := by
  refine ⟨h.1, ?_⟩
  rcases h.2 with h | ⟨g, cap, cur, h1, h2, h3, h4⟩
  · exact .inl h
  · exact .inr ⟨g, cap, cur, h1, h2, (setRow_other W b g C (by omega)).trans h3, h4⟩
/-- a packet is appended -/
theorem ownp_push {B : Nat} {W : World} {v : Value} {L : List Pk} (h : OwnP B W v L) (q : Pk) (c : Nat) (hc : PBox W c q) (hB : B ≤ W.heap.size) (hl : L.length ≤ 1000) :
    ∃ v' W', (Builtin.append_ #[103, 103] 103 #[v, .slice (some ⟨c, 0, none⟩) 1 1]).run Tryz.prog W = .ok v' W' ∧ OwnP B W' v' (L ++ [q]) ∧ Below B W W' := by
  have hi := infoPkt
  cases hi0 : Tryz.prog.info? 53 with
  | none => rw [hi0] at hi; cases hi
  | some i0 =>
    rw [hi0] at hi
    simp only [Option.map_some, Option.some.injEq, Prod.mk.injEq] at hi
    obtain ⟨hz0, hz1, hz2⟩ := hi
    obtain ⟨z, hz⟩ := Option.isSome_iff_exists.1 hz0
    have hzs : z.cells.size = 261 := by
      have hk := zeroPkV
      rw [hi0, Option.bind_some, hz] at hk
      simpa using hk
    obtain ⟨v', w', hrun, ho, hgr, hnil⟩ := run_append_own (P := Tryz.prog) W B 103 103 53 i0 z 261 2088 Tryz.underlying103 hi0 hz hz1 hz2 hzs (by decide) _ _ _ h ⟨c, 0, none⟩ 1 1 (pkCells q).toList (by rw [Array.length_toList, pkCells_size])
      (fun j u hj => by
        rw [Go.WideShapes.add_plain, Nat.zero_add, cell_of_row W c j _ _ _ hc]
        simpa using hj)
      (fun u hu => by
        have := onePk q
        rw [Array.all_eq_true_iff_forall_mem] at this
        exact this u (Array.mem_toList_iff.1 hu)) (by unfold maxLen; omega) (by omega) hB
    refine ⟨v', w', hrun, ?_, (Below.refl B W).grown hgr hB (fun k hk => (World.ownsRow.lt h k hk).1)⟩
    show w'.ownsRow B 53 261 v' (L ++ [q]).length (flatP (L ++ [q]))
    rw [List.length_append, List.length_singleton, show flatP (L ++ [q]) = flatP L ++ (pkCells q).toList by unfold flatP; rw [List.flatMap_append]; simp]
    exact ho

theorem OwnP.mono {B C : Nat} {W : World} {v : Value} {L : List Pk} (h : OwnP B W v L) (hc : C ≤ B) : OwnP C W v L := by
  refine ⟨h.1, ?_⟩
  rcases h.2 with h | ⟨g, cap, cur, h1, h2, h3, h4⟩
  · exact .inl h
  · exact .inr ⟨g, cap, cur, h1, Nat.le_trans hc h2, h3, h4⟩
theorem OwnP.turn {B : Nat} {W W' : World} {v : Value} {L : List Pk} (h : OwnP B W v L) (hb : ∀ k, B ≤ k → k < W.heap.size → W'.heap[k]? = W.heap[k]?) : OwnP B W' v L := by
  refine ⟨h.1, ?_⟩
  rcases h.2 with h | ⟨g, cap, cur, h1, h2, h3, h4⟩
  · exact .inl h
  · exact .inr ⟨g, cap, cur, h1, h2, (hb g h2 (Array.getElem?_eq_some_iff.1 h3).1).trans h3, h4⟩
/-- a slice literal of one packet -/
theorem run_bslice (PC : Array Value) (hs : PC.size = 261) (w : World) : (Instr.buildSlice 103 1 #[(0, .agg PC)]).run Tryz.prog w = .ok (.slice (some ⟨w.heap.size, 0, none⟩) 1 1) (w.alloc (.cells PC 53)) := by
  have hi := infoPkt
  cases hi0 : Tryz.prog.info? 53 with
  | none => rw [hi0] at hi; cases hi
  | some i0 =>
    rw [hi0] at hi
    simp only [Option.map_some, Option.some.injEq, Prod.mk.injEq] at hi
    obtain ⟨hz0, hz1, hz2⟩ := hi
    obtain ⟨z, hz⟩ := Option.isSome_iff_exists.1 hz0
    refine run_buildSlice w 103 53 1 _ PC i0 z Tryz.underlying103 hi0 hz (by rw [hz1]; decide) (by rw [hz1]; decide) ?_
    rw [hz1]
    generalize hB : (Array.range (1 * 261)).map (z.cells[· % z.cells.size]!) = B
    have hBs : B.size = 261 := by rw [← hB]; simp
    show Instr.fill (fun i => some (i * 261, 261)) B [(0, .agg PC)] = some PC
    simp only [Instr.fill, Value.cells, hs, hBs]
    rw [if_neg (by simp)]
    refine congrArg some ?_
    have := fill_row #[] B PC (by rw [hs, hBs])
    simpa using this
theorem wp_bslice {o : Oper} {a : Act} {w : World} {K : Act → World → Prop} {Q : Exit → Act → World → Prop} (x : Operand) (ho : o.op = .buildSlice 103 1 #[(0, x)]) (PC : Array Value) (hx : a.eval x = .agg PC) (hs : PC.size = 261)
    (h : K (a.put o.dst (.slice (some ⟨w.heap.size, 0, none⟩) 1 1)) (w.alloc (.cells PC 53))) : o.wp Tryz.prog a w K Q := by
  unfold Oper.wp execOp
  simp only [ho, List.map_toArray, List.map_cons, List.map_nil, hx, Sem.run_bind, run_bslice PC hs w, Result.andThen_ok]
  exact h
theorem wpList_bslice {ops : Array Oper} {rest : List Oper} {o : Oper} {a : Act} {w : World} {Q : Exit → Act → World → Prop} (hg : o.guard = none) (x : Operand) (ho : o.op = .buildSlice 103 1 #[(0, x)]) (PC : Array Value) (hx : a.eval x = .agg PC) (hs : PC.size = 261)
    (h : wpList Tryz.prog ops Q rest (a.put o.dst (.slice (some ⟨w.heap.size, 0, none⟩) 1 1)) (w.alloc (.cells PC 53))) : wpList Tryz.prog ops Q (o :: rest) a w :=
  wpList_plain hg fun _ hK => wp_bslice x ho PC hx hs (hK _ _ h)
theorem wp_app {o : Oper} {a : Act} {w : World} {K : Act → World → Prop} {Q : Exit → Act → World → Prop} (s x : Operand) (t : TypeId)
    (ho : o.op = .call { callee := .builtin .append, args := #[s, x], argTypes := #[t, t] }) (v u : Value) (hs : a.eval s = v) (hx : a.eval x = u) {v' : Value} {w' : World}
    (hr : (Builtin.append_ #[t, t] o.type #[v, u]).run Tryz.prog w = .ok v' w') (h : K (a.put o.dst v') w') : o.wp Tryz.prog a w K Q := by
  unfold Oper.wp execOp
  simp only [ho, resolve, invoke, builtin, Sem.run_bind, Sem.run_pure, Result.andThen_ok, List.map_toArray, List.map_cons, List.map_nil, hs, hx, hr]
  exact h

end Go.Proofs.YtbfllifgmlkndaaGreatDoor
