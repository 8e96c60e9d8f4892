/- Rows of texts of the call's own. -/
import Derived.Test.YtndmhfhihajbdaaSame
import Derived.Test.YtndmhfhihajbdaaModel
import Derived.Sort.Walk0
import Derived.Deep.RegionLaw
namespace Go.Proofs.Ytndmhfhihajbdaa
open Go.RowKit

/-- a text is put behind an own row -/
theorem Own.push {B : Nat} {W : World} {v : Value} {l : Row} (h : Own B W v l) (hB : B ≤ W.heap.size) (t : List UInt8) (hl : l.length ≤ 3000000) :
    ∃ v' W', (Builtin.append_ #[31, 31] 31 #[v, .slice (some ⟨W.heap.size, 0, none⟩) 1 1]).run Try.prog (W.alloc (.cells #[txt t] 9)) = .ok v' W' ∧ Own B W' v' (l ++ [t]) ∧ Below B W W' := by
  have hb := below_alloc W (.cells #[txt t] 9)
  obtain ⟨v', W', h1, h2, h3⟩ := Own.app (owns_below h hb) (Nat.le_trans hB hb.size) (one_tl (fun _ => True) W t trivial) (by simp; omega)
  exact ⟨v', W', h1, h2, (hb.mono hB).trans h3⟩
theorem Own.shape {B : Nat} {w : World} {v : Value} {l : Row} (h : Own B w v l) : ∃ p c, v = .slice p l.length c ∧ l.length ≤ c := (h.tl (P := fun _ => True) (fun _ _ => trivial)).shape
theorem wpList_append_runs {P : Program} {ops : Array Oper} {rest : List Oper} {o : Oper} {a : Act} {w : World} {Q : Exit → Act → World → Prop} (hw : Region.wanted o (yielded ops a.tmps) = true) (s x : Operand) (t u : TypeId)
    (ho : o.op = .call { callee := .builtin .append, args := #[s, x], argTypes := #[t, u] }) (v y v' : Value) (w' : World) (hs : a.eval s = v) (hx : a.eval x = y)
    (hrun : (Builtin.append_ #[t, u] o.type #[v, y]).run P w = .ok v' w') (h : wpList P ops Q rest (a.put o.dst v') w') : wpList P ops Q (o :: rest) a w := by
  refine wpList_step fun K hK => ?_
  rw [if_pos hw]
  unfold Oper.wp execOp
  simp only [ho, resolve, invoke, builtin, Sem.run_bind, Sem.run_pure, Result.andThen_ok, List.map_toArray, List.map_cons, List.map_nil, hs, hx, hrun]
  exact hK _ _ h
theorem Strs.below {w w' : World} {p : Option Addr} {l : Row} (h : Strs w p l) (k : Below w.heap.size w w') : Strs w' p l := fun hne => by
  obtain ⟨b, o, rfl, hc⟩ := h hne
  exact ⟨b, o, rfl, fun i hi => cell_turn (hc i hi) (k.block b (block_lt_of_cell (hc i hi)))⟩
theorem Tl.strs {P : Nat → Prop} {w : World} {p : Option Addr} {n c : Nat} {l : Row} (h : Tl P w (.slice p n c) l) : Strs w p l := fun hne => by
  obtain ⟨g, o, h1, h2, h3, h4⟩ := h.cells 0 (List.length_pos_iff.2 hne)
  exact ⟨g, o, h1, h4⟩
/-- texts that came in are put behind an own row -/
theorem Own.app0 {B : Nat} {W : World} {v : Value} {l : Row} (h : Own B W v l) (hB : B ≤ W.heap.size) (p : Option Addr) (c : Nat) (m : Row) (hS : Strs W p m) (hn : p = none → c = 0) (hmc : m.length ≤ c) (hl : l.length + m.length ≤ 4000000) :
    ∃ v' W', (Builtin.append_ #[31, 31] 31 #[v, .slice p m.length c]).run Try.prog W = .ok v' W' ∧ Own B W' v' (l ++ m) ∧ Below B W W' := by
  by_cases hm : m = []
  · subst hm
    cases p with
    | none =>
      rw [hn rfl]
      exact ⟨v, W, append_none h, by simpa [Own] using h, Below.refl _ _⟩
    | some a =>
      obtain ⟨i0, hi, hz0, hz1, hz2⟩ := info_parts infoS
      obtain ⟨v', w', hrun, ho, hgr, _⟩ := run_append_own (P := Try.prog) W B 31 31 9 i0 (.string ⟨#[]⟩) 1 16 Try.underlying31 hi hz0 hz1 hz2 rfl (by decide) _ _ _ h a 0 c [] rfl
        (fun j u' hj => by simp at hj) (fun u' hu' => by cases hu') (by unfold maxLen; simp at hl; omega) (by simp at hl; omega) hB
      refine ⟨v', w', hrun, ?_, (Below.refl B W).grown hgr hB (fun k hk => (World.ownsRow.lt h k hk).1)⟩
      show w'.ownsRow B 9 1 v' (l ++ []).length ((l ++ []).map txt)
      simpa using ho
  · obtain ⟨b, o, rfl, hc'⟩ := hS hm
    have hp : 0 < m.length := List.length_pos_iff.2 hm
    exact h.app (P := fun _ => True) hB (.inr ⟨b, o, c, rfl, hmc, trivial, block_lt_of_cell (hc' 0 hp), hc'⟩) hl
/-- a row that may be read: texts that came in, or that were told -/
structure Rd (w : World) (p : Option Addr) (c : Nat) (l : Row) : Prop where
  strs : Strs w p l
  nil : p = none → c = 0
  cap : l.length ≤ c
theorem Rd.below {w w' : World} {p : Option Addr} {c : Nat} {l : Row} (h : Rd w p c l) (k : Below w.heap.size w w') : Rd w' p c l := ⟨h.strs.below k, h.nil, h.cap⟩
theorem Own.rd {B : Nat} {w : World} {p : Option Addr} {n c : Nat} {l : Row} (h : Own B w (.slice p n c) l) : Rd w p c l := by
  have ht := h.tl (P := fun _ => True) (fun _ _ => trivial)
  refine ⟨ht.strs, fun hp => ?_, ?_⟩
  · rcases h.2 with ⟨h1, h0⟩ | ⟨g, cap, cur, h1, _⟩
    · injection h1
    · injection h1 with h1
      rw [hp] at h1; cases h1
  · obtain ⟨p', c', h1, h2⟩ := h.shape
    injection h1 with _ _ h3
    omega
theorem Rd.nilRow (w : World) : Rd w none 0 [] := ⟨fun h => absurd rfl h, fun _ => rfl, Nat.le_refl _⟩
theorem Own.base {B B' : Nat} {w : World} {v : Value} {l : Row} (h : Own B' w v l) (hb : B ≤ B') : Own B w v l := by
  refine ⟨h.1, ?_⟩
  rcases h.2 with h | ⟨g, cap, cur, h1, h2, h3⟩
  · exact .inl h
  · exact .inr ⟨g, cap, cur, h1, Nat.le_trans hb h2, h3⟩

end Go.Proofs.Ytndmhfhihajbdaa
