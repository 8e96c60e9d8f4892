/- Rows that are copied: texts, replies. -/
import Derived.Test.YtjcfbnhmljlkpaaLawLk4
namespace Go.Proofs.Ytjcfbnhmljlkpaa
open Go.RowKit

set_option maxRecDepth 100000 in
theorem infoS : (Try.prog.info? 9).map (fun i => (i.zero, i.size, i.bytes)) = some (some (.string ⟨#[]⟩), 1, 16) := by kernel_rfl
set_option maxRecDepth 100000 in
theorem infoR4 : (Try.prog.info? 31).map (fun i => (i.zero, i.size, i.bytes)) = some (some (.agg #[.int .i64 0, .int .i64 0, .string ⟨#[]⟩, .slice none 0 0]), 4, 56) := by kernel_rfl
set_option maxRecDepth 100000 in
theorem txt_one (l : List (List UInt8)) : ∀ u ∈ l.map txt, u.oneCell' = true := by
  intro u hu
  obtain ⟨s, _, rfl⟩ := List.mem_map.1 hu
  rfl
set_option maxRecDepth 100000 in
/-- a row of texts is copied -/
theorem copyS {B : Nat} {W : World} {P : Nat → Prop} {p : Option Addr} {c : Nat} {l : List (List UInt8)} (h : TxR P W p l) (hc : p = none → c = 0) (hl : l.length ≤ 1000000) (hB : B ≤ W.heap.size) {v : Value} (ho : W.ownsRow B 9 1 v 0 []) :
    ∃ v' W', (Builtin.append_ #[28, 28] 28 #[v, .slice p l.length c]).run Try.prog W = .ok v' W' ∧ W'.ownsRow B 9 1 v' l.length (l.map txt) ∧ Below B W W' := by
  obtain ⟨i0, hi, hz0, hz1, hz2⟩ := info_parts infoS
  cases p with
  | none =>
    have hl0 : l = [] := by
      cases l with
      | nil => rfl
      | cons s r => obtain ⟨b, o, e, _⟩ := h (by simp); cases e
    subst hl0
    rw [hc rfl]
    exact ⟨v, W, run_append_owned_none W B _ _ _ i0 1 Try.underlying28 hi _ _ _ ho, ho, Below.refl _ _⟩
  | some ad =>
    have hnews : ∀ j u, (l.map txt)[j]? = some u → W.cell? (ad.add j) = some u := fun j u hj => by
      have hjl : j < l.length := by
        have := (List.getElem?_eq_some_iff.1 hj).1
        rwa [List.length_map] at this
      obtain ⟨b, o, e1, _, hcc⟩ := h (fun e => by rw [e] at hjl; simp at hjl)
      injection e1 with e1
      subst e1
      rw [Go.WideShapes.add_plain, hcc j hjl, ← hj, List.getElem?_map, List.getElem?_eq_getElem hjl]
      rfl
    obtain ⟨v', w', hrun, ho', hgr, _⟩ := run_append_own (P := Try.prog) W B 28 28 9 i0 _ 1 16 Try.underlying28 hi hz0 hz1 hz2 rfl (by decide) _ _ _ ho ad l.length c (l.map txt) (by rw [List.length_map]; omega) hnews (txt_one l) (by unfold maxLen; omega) (by omega) (by omega)
    refine ⟨v', w', hrun, ?_, (Below.refl B _).grown hgr hB (fun k hk => (World.ownsRow.lt ho k hk).1)⟩
    simpa using ho'
set_option maxRecDepth 100000 in
theorem run_bsliceS0 (w : World) : (Instr.buildSlice 28 0 #[]).run Try.prog w = .ok (.slice (some ⟨w.heap.size, 0, none⟩) 0 0) (w.alloc (.cells #[] 9)) := by
  have u1 := run_underlying Try.underlying28 w
  have u2 := Try.sizeOf9
  have e : (Array.map (fun (_ : Nat) => (default : Value)) (Array.range 0)) = #[] := by
    apply Array.ext
    · simp
    · intro i h1; simp at h1
  simp [Instr.buildSlice, u1, u2, Instr.fill, newRow, e]
set_option maxRecDepth 100000 in
theorem wpList_bsliceS0 {ops : Array Oper} {rest : List Oper} {o : Oper} {a : Act} {w : World} {Q : Exit → Act → World → Prop} (hg : o.guard = none) (ho : o.op = .buildSlice 28 0 #[])
    (h : wpList Try.prog ops Q rest (a.put o.dst (.slice (some ⟨w.heap.size, 0, none⟩) 0 0)) (w.alloc (.cells #[] 9))) : wpList Try.prog ops Q (o :: rest) a w :=
  wpList_plain hg fun _ hK => by
    unfold Oper.wp execOp
    simp only [ho, List.map_toArray, List.map_nil, Sem.run_bind, run_bsliceS0 w, Result.andThen_ok]
    exact hK _ _ h
set_option maxRecDepth 100000 in
theorem run_bsliceR0 (w : World) : (Instr.buildSlice 29 0 #[]).run Try.prog w = .ok (.slice (some ⟨w.heap.size, 0, none⟩) 0 0) (w.alloc (.cells #[] 31)) := by
  have u1 := run_underlying Try.underlying29 w
  have u2 := Try.sizeOf31
  have e : (Array.map (fun (_ : Nat) => (default : Value)) (Array.range 0)) = #[] := by
    apply Array.ext
    · simp
    · intro i h1; simp at h1
  simp [Instr.buildSlice, u1, u2, Instr.fill, newRow, e]
set_option maxRecDepth 100000 in
theorem wpList_bsliceR0 {ops : Array Oper} {rest : List Oper} {o : Oper} {a : Act} {w : World} {Q : Exit → Act → World → Prop} (hg : o.guard = none) (ho : o.op = .buildSlice 29 0 #[])
    (h : wpList Try.prog ops Q rest (a.put o.dst (.slice (some ⟨w.heap.size, 0, none⟩) 0 0)) (w.alloc (.cells #[] 31))) : wpList Try.prog ops Q (o :: rest) a w :=
  wpList_plain hg fun _ hK => by
    unfold Oper.wp execOp
    simp only [ho, List.map_toArray, List.map_nil, Sem.run_bind, run_bsliceR0 w, Result.andThen_ok]
    exact hK _ _ h
set_option maxRecDepth 100000 in
theorem wpList_load1 {ops : Array Oper} {rest : List Oper} {o : Oper} {a : Act} {w : World} {Q : Exit → Act → World → Prop} (hg : o.guard = none) (ty : TypeId) (x : Operand) (ho : o.op = .load ty x) (ad : Addr) (hx : a.eval x = .pointer (some ad)) (hagg : ∀ w : World, (isAgg ty).run Try.prog w = .ok false w) (v : Value) (hc : w.cell? ad = some v)
    (h : wpList Try.prog ops Q rest (a.put o.dst v) w) : wpList Try.prog ops Q (o :: rest) a w :=
  wpList_plain hg fun _ hK => by
    unfold Oper.wp execOp
    simp [ho, hx, Instr.loadAt, Instr.sureAddr, Sem.run_bind, Result.andThen_ok, loadVar, hagg, hc]
    exact hK _ _ h
def repF (r : Rep) (q : Option Addr × Nat) : List Value := [.int .i64 r.kind, .int .i64 r.int, .string ⟨r.text.toArray⟩, .slice q.1 r.list.length q.2]
def flatQ : List Rep → (Nat → Option Addr × Nat) → Nat → List Value
  | [], _, _ => []
  | r :: l, f, k => repF r (f k) ++ flatQ l f (k + 1)
set_option maxRecDepth 100000 in
theorem flatQ_len (f : Nat → Option Addr × Nat) : ∀ (l : List Rep) (k : Nat), (flatQ l f k).length = l.length * 4
  | [], _ => rfl
  | r :: l, k => by
    show (repF r (f k) ++ flatQ l f (k + 1)).length = _
    rw [List.length_append, flatQ_len f l (k + 1)]
    simp [repF]; omega
set_option maxRecDepth 100000 in
theorem flatQ_at (f : Nat → Option Addr × Nat) : ∀ (l : List Rep) (k i : Nat) (h : i < l.length) (j : Nat), j < 4 → (flatQ l f k)[i * 4 + j]? = (repF l[i] (f (k + i)))[j]?
  | r :: l, k, 0, _, j, hj => by
    show (repF r (f k) ++ flatQ l f (k + 1))[0 * 4 + j]? = _
    rw [List.getElem?_append_left (by simp [repF]; omega)]
    simp
  | r :: l, k, i + 1, h, j, hj => by
    have := flatQ_at f l (k + 1) i (by simpa using h) j hj
    have e4 : (repF r (f k)).length = 4 := rfl
    show (repF r (f k) ++ flatQ l f (k + 1))[(i + 1) * 4 + j]? = _
    rw [List.getElem?_append_right (by rw [e4]; omega), e4, show (i + 1) * 4 + j - 4 = i * 4 + j by omega, this, show k + 1 + i = k + (i + 1) by omega]
    rfl
set_option maxRecDepth 100000 in
theorem flatQ_one (f : Nat → Option Addr × Nat) : ∀ (l : List Rep) (k : Nat), ∀ u ∈ flatQ l f k, u.oneCell' = true
  | r :: l, k, u, hu => by
    rcases List.mem_append.1 (show u ∈ repF r (f k) ++ flatQ l f (k + 1) from hu) with h | h
    · simp only [repF, List.mem_cons, List.not_mem_nil, or_false] at h
      rcases h with rfl | rfl | rfl | rfl <;> rfl
    · exact flatQ_one f l (k + 1) u h
set_option maxRecDepth 100000 in
theorem row_pick {P : Nat → Prop} {w : World} {d : Nat} {p : Option Addr} {l : List Rep} (h : RowOf P w (Rp P w d) p l) : ∃ f : Nat → Option Addr × Nat, (∀ b o, p = some ⟨b, o, none⟩ → ∀ j u, (flatQ l f 0)[j]? = some u → w.cell? ⟨b, o + j, none⟩ = some u) ∧ ∀ i (hi : i < l.length), Rp P w d (.agg #[.int .i64 l[i].kind, .int .i64 l[i].int, .string ⟨l[i].text.toArray⟩, .slice (f i).1 l[i].list.length (f i).2]) l[i] := by
  by_cases hne : l = []
  · subst hne
    exact ⟨fun _ => (none, 0), fun b o _ j u hj => by simp [flatQ] at hj, fun i hi => absurd hi (Nat.not_lt_zero i)⟩
  obtain ⟨b, o, rfl, _, hc⟩ := h hne
  have hex : ∀ i : Nat, ∃ q : Option Addr × Nat, ∀ hi : i < l.length, w.cell? ⟨b, o + i * 4, none⟩ = some (.int .i64 l[i].kind) ∧ w.cell? ⟨b, o + i * 4 + 1, none⟩ = some (.int .i64 l[i].int) ∧ w.cell? ⟨b, o + i * 4 + 2, none⟩ = some (.string ⟨l[i].text.toArray⟩) ∧ w.cell? ⟨b, o + i * 4 + 3, none⟩ = some (.slice q.1 l[i].list.length q.2) ∧ Rp P w d (.agg #[.int .i64 l[i].kind, .int .i64 l[i].int, .string ⟨l[i].text.toArray⟩, .slice q.1 l[i].list.length q.2]) l[i] := fun i => by
    by_cases hi : i < l.length
    · obtain ⟨q, c, h0, h1, h2, h3, h4⟩ := hc i hi
      exact ⟨(q, c), fun _ => ⟨h0, h1, h2, h3, h4⟩⟩
    · exact ⟨(none, 0), fun h => absurd h hi⟩
  refine ⟨fun i => Classical.choose (hex i), fun b' o' e j u hj => ?_, fun i hi => (Classical.choose_spec (hex i) hi).2.2.2.2⟩
  injection e with e
  injection e with e1 e2
  subst e1 e2
  have hjl : j < l.length * 4 := by
    have := (List.getElem?_eq_some_iff.1 hj).1
    rwa [flatQ_len] at this
  have hi : j / 4 < l.length := by omega
  have e := flatQ_at (fun i => Classical.choose (hex i)) l 0 (j / 4) hi (j % 4) (by omega)
  rw [show j / 4 * 4 + j % 4 = j by omega, hj, Nat.zero_add] at e
  obtain ⟨h0, h1, h2, h3, _⟩ := Classical.choose_spec (hex (j / 4)) hi
  have hm : j % 4 = 0 ∨ j % 4 = 1 ∨ j % 4 = 2 ∨ j % 4 = 3 := by omega
  rcases hm with hm | hm | hm | hm
  · rw [hm] at e
    rw [show o + j = o + j / 4 * 4 by omega, h0]; exact e.symm
  · rw [hm] at e
    rw [show o + j = o + j / 4 * 4 + 1 by omega, h1]; exact e.symm
  · rw [hm] at e
    rw [show o + j = o + j / 4 * 4 + 2 by omega, h2]; exact e.symm
  · rw [hm] at e
    rw [show o + j = o + j / 4 * 4 + 3 by omega, h3]; exact e.symm
set_option maxRecDepth 100000 in
/-- a row of replies is copied -/
theorem copyR {B : Nat} {W : World} {P : Nat → Prop} {d : Nat} {p : Option Addr} {c : Nat} {l : List Rep} (h : RowOf P W (Rp P W d) p l) (hP : ∀ k, P k → k < B) (hc : p = none → c = 0) (hl : l.length ≤ 1000000) (hB : B ≤ W.heap.size) {v : Value} (ho : W.ownsRow B 31 4 v 0 []) :
    ∃ v' W' fl, (Builtin.append_ #[29, 29] 29 #[v, .slice p l.length c]).run Try.prog W = .ok v' W' ∧ W'.ownsRow B 31 4 v' l.length fl ∧ Below B W W' ∧ (∀ i, i < l.length → ∃ s, fl[i * 4 + 2]? = some (.string s)) ∧ ∀ q cc, v' = .slice q l.length cc → RowOf (fun k => P k ∨ B ≤ k) W' (Rp (fun k => P k ∨ B ≤ k) W' d) q l := by
  obtain ⟨i0, hi, hz0, hz1, hz2⟩ := info_parts infoR4
  obtain ⟨f, hf, hR⟩ := row_pick h
  have hst : ∀ i, i < l.length → ∃ s, (flatQ l f 0)[i * 4 + 2]? = some (.string s) := fun i hil => by
    rw [flatQ_at f l 0 i hil 2 (by decide)]
    exact ⟨_, rfl⟩
  have fin : ∀ (v' : Value) (W' : World), W'.ownsRow B 31 4 v' l.length (flatQ l f 0) → Below B W W' → ∀ q cc, v' = .slice q l.length cc → RowOf (fun k => P k ∨ B ≤ k) W' (Rp (fun k => P k ∨ B ≤ k) W' d) q l := by
    intro v' W' ho' hb q cc e hne
    subst e
    rcases ho'.2 with ⟨_, h0⟩ | ⟨g, cap, cur, h1, h2, h3, _⟩
    · exact absurd (List.length_eq_zero_iff.1 h0) hne
    · injection h1 with e1 e2 e3
      subst e1
      refine ⟨g, 0, rfl, .inr h2, fun i hil => ⟨(f i).1, (f i).2, ?_, ?_, ?_, ?_, (hR i hil).turn (fun k hk _ => ⟨.inl hk, hb.block k (hP k hk)⟩) (Nat.le_refl _)⟩⟩
      · have e := flatQ_at f l 0 i hil 0 (by decide)
        rw [Nat.zero_add] at e
        have := World.ownsRow.cells ho' (g := g) rfl (i * 4 + 0) _ e
        rwa [Go.WideShapes.add_plain] at this
      · have e := flatQ_at f l 0 i hil 1 (by decide)
        rw [Nat.zero_add] at e
        have := World.ownsRow.cells ho' (g := g) rfl (i * 4 + 1) _ e
        rwa [Go.WideShapes.add_plain] at this
      · have e := flatQ_at f l 0 i hil 2 (by decide)
        rw [Nat.zero_add] at e
        have := World.ownsRow.cells ho' (g := g) rfl (i * 4 + 2) _ e
        rwa [Go.WideShapes.add_plain] at this
      · have e := flatQ_at f l 0 i hil 3 (by decide)
        rw [Nat.zero_add] at e
        have := World.ownsRow.cells ho' (g := g) rfl (i * 4 + 3) _ e
        rwa [Go.WideShapes.add_plain] at this
  cases p with
  | none =>
    have hl0 : l = [] := by
      cases l with
      | nil => rfl
      | cons s r => obtain ⟨b, o, e, _⟩ := h (by simp); cases e
    subst hl0
    rw [hc rfl]
    exact ⟨v, W, [], run_append_owned_none W B _ _ _ i0 4 Try.underlying29 hi _ _ _ ho, ho, Below.refl _ _, hst, fin v W ho (Below.refl _ _)⟩
  | some ad =>
    have hnews : ∀ j u, (flatQ l f 0)[j]? = some u → W.cell? (ad.add j) = some u := fun j u hj => by
      have hne : l ≠ [] := fun e => by rw [e] at hj; simp [flatQ] at hj
      obtain ⟨b, o, e1, _, _⟩ := h hne
      have := hf b o e1 j u hj
      injection e1 with e1
      subst e1
      rw [Go.WideShapes.add_plain]
      exact this
    obtain ⟨v', w', hrun, ho', hgr, _⟩ := run_append_own (P := Try.prog) W B 29 29 31 i0 _ 4 56 Try.underlying29 hi hz0 hz1 hz2 rfl (by decide) _ _ _ ho ad l.length c (flatQ l f 0) (flatQ_len f l 0) hnews (flatQ_one f l 0) (by unfold maxLen; omega) (by omega) (by omega)
    have hb : Below B W w' := (Below.refl B _).grown hgr hB (fun k hk => (World.ownsRow.lt ho k hk).1)
    have ho2 : w'.ownsRow B 31 4 v' l.length (flatQ l f 0) := by simpa using ho'
    exact ⟨v', w', _, hrun, ho2, hb, hst, fin v' w' ho2 hb⟩

set_option maxRecDepth 100000 in
/-- where a row of the call's own lies -/
theorem own_info {W : World} {B : Nat} {t : TypeId} {sz : Nat} {v : Value} {n : Nat} {xs : List Value} (h : W.ownsRow B t sz v n xs) : ∃ g q d, v = .slice q n d ∧ (n ≠ 0 → q = some ⟨g, 0, none⟩ ∧ B ≤ g ∧ g < W.heap.size ∧ ∃ Z, W.heap[g]? = some (.cells Z t (0, 0)) ∧ ∀ (j : Nat) (u : Value), xs[j]? = some u → Z[j]? = some u) := by
  rcases h.2 with ⟨rfl, h0⟩ | ⟨g, cap, cur, h1, h2, h3, h4⟩
  · exact ⟨0, none, 0, by rw [h0], fun hn => absurd h0 hn⟩
  · refine ⟨g, some ⟨g, 0, none⟩, cap, h1, fun _ => ⟨rfl, h2, (Array.getElem?_eq_some_iff.1 h3).1, cur, h3, fun j u hj => ?_⟩⟩
    subst h1
    have c0 := World.ownsRow.cells h (g := g) rfl j u hj
    rw [Go.WideShapes.add_plain, cell_of_row W g _ _ _ _ h3, Nat.zero_add] at c0
    exact c0
set_option maxRecDepth 100000 in
theorem own_tx {W : World} {B : Nat} {q : Option Addr} {n d : Nat} {l : List (List UInt8)} (h : W.ownsRow B 9 1 (.slice q n d) n (l.map txt)) : TxR (fun k => B ≤ k) W q l := by
  intro hne
  rcases h.2 with ⟨h1, h0⟩ | ⟨g, cap, cur, h1, h2, h3, _⟩
  · have := h.1
    rw [h0, List.length_map] at this
    exact absurd (List.length_eq_zero_iff.1 (by omega)) hne
  · injection h1 with e1 e2 e3
    subst e1
    refine ⟨g, 0, rfl, h2, fun i hi => ?_⟩
    have c0 := World.ownsRow.cells h (g := g) rfl i (txt l[i]) (by rw [List.getElem?_map, List.getElem?_eq_getElem hi]; rfl)
    rwa [Go.WideShapes.add_plain] at c0
set_option maxRecDepth 100000 in
theorem TxR.turn {P Q : Nat → Prop} {w w' : World} {p : Option Addr} {l : List (List UInt8)} (h : TxR P w p l) (hk : ∀ b, P b → b < w.heap.size → Q b ∧ w'.heap[b]? = w.heap[b]?) : TxR Q w' p l := fun hne => by
  obtain ⟨b, o, e, hp, hc⟩ := h hne
  obtain ⟨k1, k2⟩ := hk b hp (block_lt_of_cell (hc 0 (List.length_pos_iff.2 hne)))
  exact ⟨b, o, e, k1, fun i hi => cell_turn (hc i hi) k2⟩

end Go.Proofs.Ytjcfbnhmljlkpaa
