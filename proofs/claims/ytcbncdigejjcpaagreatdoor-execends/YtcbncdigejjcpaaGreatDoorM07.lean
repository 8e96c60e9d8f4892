/- Same, Own. -/
import Derived.BigQuiet
import Derived.Test.YtcbncdigejjcpaaGreatDoorM03
import Derived.Sort.Walk0
import Derived.Deep.RegionLaw
import Derived.Test.YtcbncdigejjcpaaGreatDoorM01
namespace Go.Proofs.YtcbncdigejjcpaaGreatDoor
open Go.RowKit

theorem below_redrawn {B : Nat} {a w : World} (h : Below B a w) (d : Nat) : Below B a { w with drawn := d } := ⟨h.os, h.tape, h.output, h.size, h.block⟩
theorem drop_step {α : Type} {l : List α} {k : Nat} (h : k < l.length) : l.drop k = l[k] :: l.drop (k + 1) := List.drop_eq_getElem_cons h
/-- where texts lie -/
def Strs (w : World) (p : Option Addr) (l : Row) : Prop := l ≠ [] → ∃ b o, p = some ⟨b, o, none⟩ ∧ ∀ i (h : i < l.length), w.cell? ⟨b, o + i, none⟩ = some (txt l[i])
end Go.Proofs.YtcbncdigejjcpaaGreatDoor

namespace Go.Proofs.YtcbncdigejjcpaaGreatDoor
open Go.RowKit

/-- a text is put behind an own row -/
theorem Own.push {B : Nat} {W : World} {v : Value} {l : Row} (h : Own B W v l) (hB : B ≤ W.heap.size) (t : List UInt8) (hl : l.length ≤ 3000000) :
    ∃ v' W', (Builtin.append_ #[23, 23] 23 #[v, .slice (some ⟨W.heap.size, 0, none⟩) 1 1]).run Tryz.prog (W.alloc (.cells #[txt t] 9)) = .ok v' W' ∧ Own B W' v' (l ++ [t]) ∧ Below B W W' := by
  have hb := below_alloc W (.cells #[txt t] 9)
  obtain ⟨v', W', h1, h2, h3⟩ := Own.app (owns_below h hb) (Nat.le_trans hB hb.size) (one_tl (fun _ => True) W t trivial) (by simp; omega)
  exact ⟨v', W', h1, h2, (hb.mono hB).trans h3⟩
theorem Own.shape {B : Nat} {w : World} {v : Value} {l : Row} (h : Own B w v l) : ∃ p c, v = .slice p l.length c ∧ l.length ≤ c := (h.tl (P := fun _ => True) (fun _ _ => trivial)).shape
theorem wpList_append_runs {P : Program} {ops : Array Oper} {rest : List Oper} {o : Oper} {a : Act} {w : World} {Q : Exit → Act → World → Prop} (hw : Region.wanted o (yielded ops a.tmps) = true) (s x : Operand) (t u : TypeId)
    (ho : o.op = .call { callee := .builtin .append, args := #[s, x], argTypes := #[t, u] }) (v y v' : Value) (w' : World) (hs : a.eval s = v) (hx : a.eval x = y)
    (hrun : (Builtin.append_ #[t, u] o.type #[v, y]).run P w = .ok v' w') (h : wpList P ops Q rest (a.put o.dst v') w') : wpList P ops Q (o :: rest) a w := by
  refine wpList_step fun K hK => ?_
  rw [if_pos hw]
  unfold Oper.wp execOp
  simp only [ho, resolve, invoke, builtin, Sem.run_bind, Sem.run_pure, Result.andThen_ok, List.map_toArray, List.map_cons, List.map_nil, hs, hx, hrun]
  exact hK _ _ h
theorem Strs.below {w w' : World} {p : Option Addr} {l : Row} (h : Strs w p l) (k : Below w.heap.size w w') : Strs w' p l := fun hne => by
  obtain ⟨b, o, rfl, hc⟩ := h hne
  exact ⟨b, o, rfl, fun i hi => cell_turn (hc i hi) (k.block b (block_lt_of_cell (hc i hi)))⟩
theorem Tl.strs {P : Nat → Prop} {w : World} {p : Option Addr} {n c : Nat} {l : Row} (h : Tl P w (.slice p n c) l) : Strs w p l := fun hne => by
  obtain ⟨g, o, h1, h2, h3, h4⟩ := h.cells 0 (List.length_pos_iff.2 hne)
  exact ⟨g, o, h1, h4⟩
/-- a row that may be read: texts that came in, or that were told -/
structure Rd (w : World) (p : Option Addr) (c : Nat) (l : Row) : Prop where
  strs : Strs w p l
  nil : p = none → c = 0
  cap : l.length ≤ c
theorem Rd.below {w w' : World} {p : Option Addr} {c : Nat} {l : Row} (h : Rd w p c l) (k : Below w.heap.size w w') : Rd w' p c l := ⟨h.strs.below k, h.nil, h.cap⟩
theorem Own.rd {B : Nat} {w : World} {p : Option Addr} {n c : Nat} {l : Row} (h : Own B w (.slice p n c) l) : Rd w p c l := by
  have ht := h.tl (P := fun _ => True) (fun _ _ => trivial)
  refine ⟨ht.strs, fun hp => ?_, ?_⟩
  · rcases h.2 with ⟨h1, h0⟩ | ⟨g, cap, cur, h1, _⟩
    · injection h1
    · injection h1 with h1
      rw [hp] at h1; cases h1
  · obtain ⟨p', c', h1, h2⟩ := h.shape
    injection h1 with _ _ h3
    omega
theorem Rd.nilRow (w : World) : Rd w none 0 [] := ⟨fun h => absurd rfl h, fun _ => rfl, Nat.le_refl _⟩
theorem Own.base {B B' : Nat} {w : World} {v : Value} {l : Row} (h : Own B' w v l) (hb : B ≤ B') : Own B w v l := by
  refine ⟨h.1, ?_⟩
  rcases h.2 with h | ⟨g, cap, cur, h1, h2, h3⟩
  · exact .inl h
  · exact .inr ⟨g, cap, cur, h1, Nat.le_trans hb h2, h3⟩

end Go.Proofs.YtcbncdigejjcpaaGreatDoor
