/- Links in memory, as far as the laws must know; rows of letters are copied. -/
import Derived.Test.YtjcfbnhmljlkpaaLkOps
namespace Go.Proofs.Ytjcfbnhmljlkpaa
open Go.RowKit

abbrev ptr (b : Nat) : Value := .pointer (some ⟨b, 0, none⟩)
/-- what a call leaves alone: all but the blocks F of which it may write; F', R': what is written, and read, behind it -/
structure Kp (F F' R R' : Nat → Prop) (w w' : World) : Prop where
  like : Below 0 w w'
  block : ∀ k, k < w.heap.size → ¬ F k → w'.heap[k]? = w.heap[k]?
  foot : ∀ k, F' k → F k ∨ w.heap.size ≤ k
  rows : ∀ k, R' k → R k ∨ w.heap.size ≤ k
theorem Kp.refl (F R : Nat → Prop) (w : World) : Kp F F R R w w := ⟨Below.refl _ _, fun _ _ _ => rfl, fun _ h => .inl h, fun _ h => .inl h⟩
theorem Kp.trans {F F1 F2 R R1 R2 : Nat → Prop} {x y z : World} (h : Kp F F1 R R1 x y) (k : Kp F1 F2 R1 R2 y z) : Kp F F2 R R2 x z :=
  ⟨h.like.trans k.like, fun i hi hf => (k.block i (Nat.lt_of_lt_of_le hi h.like.size) (fun c => (h.foot i c).elim hf (fun c => by omega))).trans (h.block i hi hf), fun i hi =>
    (k.foot i hi).elim (h.foot i) (fun c => .inr (Nat.le_trans h.like.size c)), fun i hi =>
    (k.rows i hi).elim (h.rows i) (fun c => .inr (Nat.le_trans h.like.size c))⟩
theorem Kp.of_below {F R : Nat → Prop} {n : Nat} {w w' : World} (h : Below n w w') (hn : w.heap.size ≤ n) : Kp F F R R w w' :=
  ⟨h.mono (Nat.zero_le _), fun k hk _ => h.block k (Nat.lt_of_lt_of_le hk hn), fun _ h => .inl h, fun _ h => .inl h⟩
theorem Kp.below {F F' R R' : Nat → Prop} {n : Nat} {w w' : World} (h : Kp F F' R R' w w') (hF : ∀ k, F k → n ≤ k) (hn : n ≤ w.heap.size) : Below n w w' :=
  ⟨h.like.os, h.like.tape, h.like.output, h.like.size, fun k hk => h.block k (Nat.lt_of_lt_of_le hk hn) (fun c => by have := hF k c; omega)⟩
/-- what is told where nothing is on its way -/
def zeroLt : Lt := ⟨0, 0, 0, 0, [], [], [], .mk 0 0 [] [], false, 0⟩
def headV (ws : List Wy) (f t : Int) : Lt := ((onV ws f t).head?).getD zeroLt
/-- so great at most -/
def FewL (x : Lt) : Prop := Sm 9 x.reply ∧ x.args.length ≤ 100
/-- what the laws must know of links: LB w b F R ws: those in block b are such that ws are on their way; F: the blocks that their calls may write, R: the rows of letters -/
structure LinksIs (LB : World → Nat → (Nat → Prop) → (Nat → Prop) → List Wy → Prop) : Prop where
  lt : ∀ {w b F R ws}, LB w b F R ws → ∀ k, F k ∨ R k → k < w.heap.size
  sep : ∀ {w b F R ws}, LB w b F R ws → ∀ k, R k → ¬ F k
  ends : ∀ {w b F R ws}, LB w b F R ws → ∀ f t, onV ws f t ≠ [] → IE f t
  keep : ∀ {w w' b F R ws}, LB w b F R ws → (∀ k, F k ∨ R k → w'.heap[k]? = w.heap[k]?) → w.heap.size ≤ w'.heap.size → LB w' b F R ws
  new : ∀ w, Calls Try.prog 8 #[] w fun e w' => ∃ b F R, e = .returned (ptr b) ∧ Hid (LB w' b F R [] ∧ (∀ k, F k ∨ R k → w.heap.size ≤ k) ∧ Below w.heap.size w w')
  send : ∀ {w b F R ws}, LB w b F R ws → ∀ (f t : Int) (x : Lt) (ap : Option Addr) (ac : Nat) (rp : Option Addr) (rc : Nat), LtR All w x ap rp → FewL x → IE f t → ws.length ≤ 100000 →
    Calls Try.prog 14 #[ptr b, .int .i64 f, .int .i64 t, .agg (ltC x ap ac rp rc)] w fun e w' => e = .returned (.tuple #[]) ∧ Hid (∃ F' R', LB w' b F' R' (ws ++ [⟨f, t, x⟩]) ∧ Kp F F' R R' w w')
  next : ∀ {w b F R ws}, LB w b F R ws → ∀ (f t : Int), IE f t → ws.length ≤ 100000 →
    Calls Try.prog 15 #[ptr b, .int .i64 f, .int .i64 t] w fun e w' => ∃ ap ac rp rc, e = .returned (.tuple #[.agg (ltC (headV ws f t) ap ac rp rc), .bool (!(onV ws f t).isEmpty)]) ∧ Hid (∃ F' R', LtR R' w' (headV ws f t) ap rp ∧ LB w' b F' R' (cutV ws f t) ∧ Kp F F' R R' w w')
  waiting : ∀ {w b F R ws}, LB w b F R ws → ∀ (f t : Int), IE f t → ws.length ≤ 100000 →
    Calls Try.prog 18 #[ptr b, .int .i64 f, .int .i64 t] w fun e w' => e = .returned (.int .i64 ((onV ws f t).length : Int)) ∧ Hid (Below w.heap.size w w')
  pairs : ∀ {w b F R ws}, LB w b F R ws → ws.length ≤ 100000 →
    Calls Try.prog 17 #[ptr b] w fun e w' => ∃ q d, e = .returned (.slice q (pairsV ws).length d) ∧ Hid (RdP (fun k => w.heap.size ≤ k) w' q (pairsV ws) ∧ Below w.heap.size w w')
  clone : ∀ {w b F R ws}, LB w b F R ws → ws.length ≤ 100000 →
    Calls Try.prog 13 #[ptr b] w fun e w' => ∃ b' F' R', e = .returned (ptr b') ∧ Hid (LB w' b' F' R' ws ∧ (∀ k, F' k → w.heap.size ≤ k) ∧ (∀ k, R' k → R k ∨ w.heap.size ≤ k) ∧ Below w.heap.size w w')
theorem flatW_get {l : List Wm} {j : Nat} {u : Value} (h : (flatW l)[j]? = some u) : ∃ i, ∃ hi : i < l.length, ∃ k, k < 15 ∧ j = i * 15 + k ∧ l[i].cells[k]? = some u := by
  have hj : j < l.length * 15 := by
    have := (List.getElem?_eq_some_iff.1 h).1
    rwa [flatW_len] at this
  have hi : j / 15 < l.length := by omega
  have e := flatW_at l (j / 15) hi (j % 15) (by omega)
  rw [show j / 15 * 15 + j % 15 = j by omega, h] at e
  exact ⟨j / 15, hi, j % 15, by omega, by omega, e.symm⟩
theorem cells_one (m : Wm) : ∀ u ∈ m.cells.toList, u.oneCell' = true := by
  intro u hu
  simp only [Wm.cells, List.mem_cons, List.not_mem_nil, or_false] at hu
  rcases hu with rfl | rfl | rfl | rfl | rfl | rfl | rfl | rfl | rfl | rfl | rfl | rfl | rfl | rfl | rfl <;> rfl
theorem flatW_one (l : List Wm) : ∀ u ∈ flatW l, u.oneCell' = true := by
  intro u hu
  obtain ⟨m, _, hm⟩ := List.mem_flatMap.1 hu
  exact cells_one m u hm
/-- a letter that lies in a block is put behind -/
theorem OwnW.pushAt {B : Nat} {W : World} {v : Value} {R : List Wm} (h : OwnW B W v R) (hB : B ≤ W.heap.size) (x : Wm) (nb : Nat) (hn : W.heap[nb]? = some (.cells x.cells 56 (0, 0))) (hl : R.length ≤ 1000000) :
    ∃ v' W', (Builtin.append_ #[27, 27] 27 #[v, .slice (some ⟨nb, 0, none⟩) 1 1]).run Try.prog W = .ok v' W' ∧ OwnW B W' v' (R ++ [x]) ∧ Below B W W' := by
  obtain ⟨i0, hi, hz0, hz1, hz2⟩ := info_parts infoW
  have hnews : ∀ j u, x.cells.toList[j]? = some u → W.cell? ((⟨nb, 0, none⟩ : Addr).add j) = some u := fun j u hj => by
    rw [Go.WideShapes.add_plain, cell_of_row _ _ _ _ _ _ hn]
    simpa using hj
  obtain ⟨v', w', hrun, ho', hgr, _⟩ := run_append_own (P := Try.prog) W B 27 27 56 i0 _ 15 176 Try.underlying27 hi hz0 hz1 hz2 rfl (by decide) _ _ _ h ⟨nb, 0, none⟩ 1 1 x.cells.toList rfl hnews (cells_one x) (by unfold maxLen; omega) (by omega) (by omega)
  refine ⟨v', w', hrun, ?_, (Below.refl B _).grown hgr hB (fun k hk => (World.ownsRow.lt h k hk).1)⟩
  show w'.ownsRow B _ 15 v' (R ++ [x]).length (flatW (R ++ [x]))
  rw [List.length_append, flatW_app]
  have e : flatW [x] = x.cells.toList := by simp [flatW]
  rw [e]
  exact ho'
set_option maxRecDepth 100000 in
/-- a row of letters is put behind -/
theorem OwnW.copy {B : Nat} {W : World} {v : Value} {R : List Wm} (h : OwnW B W v R) (hB : B ≤ W.heap.size) {G P : Nat → Prop} {a : Option Addr} {c : Nat} {T : List Wm} (hT : Rdw G P W a T) (hc : a = none → c = 0) (hl : R.length ≤ 1000000) (hl2 : T.length ≤ 1000000) :
    ∃ v' W', (Builtin.append_ #[27, 27] 27 #[v, .slice a T.length c]).run Try.prog W = .ok v' W' ∧ OwnW B W' v' (R ++ T) ∧ Below B W W' ∧ ∀ k, k < W.heap.size → some k ≠ v.ownBlock → W'.heap[k]? = W.heap[k]? := by
  obtain ⟨i0, hi, hz0, hz1, hz2⟩ := info_parts infoW
  cases a with
  | none =>
    have hT0 : T = [] := by
      cases T with
      | nil => rfl
      | cons m T => obtain ⟨b, o, e, _⟩ := hT.at15 (by simp); cases e
    subst hT0
    rw [hc rfl, List.append_nil]
    exact ⟨v, W, run_append_owned_none W B _ _ _ i0 15 Try.underlying27 hi _ _ _ h, h, Below.refl _ _, fun _ _ _ => rfl⟩
  | some ad =>
    have hnews : ∀ j u, (flatW T)[j]? = some u → W.cell? (ad.add j) = some u := fun j u hj => by
      obtain ⟨i, hi, k, hk, rfl, e⟩ := flatW_get hj
      obtain ⟨b, o, e1, _, _, hcc⟩ := hT.at15 (fun e => by rw [e] at hi; simp at hi)
      injection e1 with e1
      subst e1
      rw [Go.WideShapes.add_plain, hcc i hi k hk]
      exact e
    obtain ⟨v', w', hrun, ho', hgr, _⟩ := run_append_own (P := Try.prog) W B 27 27 56 i0 _ 15 176 Try.underlying27 hi hz0 hz1 hz2 rfl (by decide) _ _ _ h ad T.length c (flatW T) (flatW_len T) hnews (flatW_one T) (by unfold maxLen; omega) (by omega) (by omega)
    refine ⟨v', w', hrun, ?_, (Below.refl B _).grown hgr hB (fun k hk => (World.ownsRow.lt h k hk).1), hgr.block⟩
    show w'.ownsRow B _ 15 v' (R ++ T).length (flatW (R ++ T))
    rw [List.length_append, flatW_app]
    exact ho'

end Go.Proofs.Ytjcfbnhmljlkpaa
