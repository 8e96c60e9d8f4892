/- The walk of the law SlotJoins. -/
import Derived.Test.YtlgghndpagoalaaDoorAlive
import Derived.RegionTactic
namespace Go.Proofs.YtlgghndpagoalaaDoor
open Go.RowKit
open Slot

theorem step_load {P : Program} {ops : Array Oper} {o : Oper} {a : Act} {w : World} {K : Act → World → Prop} {Q : Exit → Act → World → Prop} {E : Prop} (hw : Region.wanted o (yielded ops a.tmps) = true) (ty : TypeId) (x : Operand) (ho : o.op = .load ty x)
    (g : Nat) (hx : a.eval x = .pointer (some ⟨g, 0, none⟩)) (t : TypeId) (cs : Array Value) (fr : Nat × Nat) (d : TypeDesc) (hg : w.heap[g]? = some (.cells cs t fr))
    (hu : P.underlying ty = some d) (hd : (match d with | .struct _ | .array _ _ => true | _ => false) = true) (hi : (P.info? ty).map (·.size) = some cs.size)
    (h : K (a.put o.dst (.agg cs)) w) : if Region.wanted o (yielded ops a.tmps) = true then o.wp P a w K Q else E := by
  rw [if_pos hw]
  exact wp_load_row ty x ho g hx t cs fr d hg hu hd hi h
theorem step_store {P : Program} {ops : Array Oper} {o : Oper} {a : Act} {w : World} {K : Act → World → Prop} {Q : Exit → Act → World → Prop} {E : Prop} (hw : Region.wanted o (yielded ops a.tmps) = true) (ty : TypeId) (x y : Operand) (ho : o.op = .store ty x y)
    (g : Nat) (cells : Array Value) (hx : a.eval x = .pointer (some ⟨g, 0, none⟩)) (hy : a.eval y = .agg cells)
    (t : TypeId) (old : Array Value) (hg : w.heap[g]? = some (.cells old t (0, 0))) (hi : (P.info? ty).map (·.size) = some cells.size)
    (hold : old.size = cells.size) (h1 : cells.all (·.oneCell') = true)
    (h : K (a.put o.dst undef) (w.setRow g cells)) : if Region.wanted o (yielded ops a.tmps) = true then o.wp P a w K Q else E := by
  rw [if_pos hw]
  exact wp_store_row ty x y ho g cells hx hy t old hg hi hold h1 h
theorem step_append_run {P : Program} {ops : Array Oper} {o : Oper} {a : Act} {w : World} {K : Act → World → Prop} {Q : Exit → Act → World → Prop} {E : Prop} (hw : Region.wanted o (yielded ops a.tmps) = true) (s x : Operand) (t : TypeId)
    (ho : o.op = .call { callee := .builtin .append, args := #[s, x], argTypes := #[t, t] }) (v u v' : Value) (w' : World) (hs : a.eval s = v) (hx : a.eval x = u)
    (hrun : (Builtin.append_ #[t, t] o.type #[v, u]).run P w = .ok v' w') (h : K (a.put o.dst v') w') : if Region.wanted o (yielded ops a.tmps) = true then o.wp P a w K Q else E := by
  rw [if_pos hw]
  unfold Oper.wp execOp
  simp only [ho, resolve, invoke, builtin, Sem.run_bind, Sem.run_pure, Result.andThen_ok, List.map_toArray, List.map_cons, List.map_nil, hs, hx, hrun]
  exact h
theorem flat_one (l : List (Nat × Nat)) : ∀ u ∈ flat l, u.oneCell' = true := by
  induction l with
  | nil => intro u h; cases h
  | cons p l ih =>
    intro u h
    rcases List.mem_cons.1 h with rfl | h
    · rfl
    · rcases List.mem_cons.1 h with rfl | h
      · rfl
      · exact ih u h
/-- two rows of ranges, one behind the other -/
theorem join_run (B B2 : Nat) (w : World) (v u : Value) (l k : List (Nat × Nat)) (h1 : w.ownsRow B 41 2 v l.length (flat l)) (h2 : w.ownsRow B2 41 2 u k.length (flat k)) (hB : B ≤ w.heap.size) (hlen : l.length + k.length ≤ 32768) :
    ∃ v' w', (Builtin.append_ #[31, 31] 31 #[v, u]).run Tryd.prog w = .ok v' w' ∧ w'.ownsRow B 41 2 v' (l ++ k).length (flat (l ++ k)) ∧ Below B w w' ∧ w.grownBy w' v.ownBlock := by
  obtain ⟨i0, hi, hz0, hz1, hz2⟩ := info_parts infoR
  have some_case : ∀ g cap, u = .slice (some ⟨g, 0, none⟩) k.length cap → (∀ j x, (flat k)[j]? = some x → w.cell? ((⟨g, 0, none⟩ : Addr).add j) = some x) → ∃ v' w', (Builtin.append_ #[31, 31] 31 #[v, u]).run Tryd.prog w = .ok v' w' ∧ w'.ownsRow B 41 2 v' (l ++ k).length (flat (l ++ k)) ∧ Below B w w' ∧ w.grownBy w' v.ownBlock := by
    rintro g cap rfl hc
    obtain ⟨v', w', hrun, ho, hgr, _⟩ := run_append_own (P := Tryd.prog) w B 31 31 41 i0 (.agg #[.int .i64 0, .int .i64 0]) 2 16 Tryd.underlying31 hi hz0 hz1 hz2 rfl (by decide) _ _ _ h1 ⟨g, 0, none⟩ k.length cap (flat k) (flat_length k) hc (flat_one k) (by unfold maxLen; omega) (by omega) hB
    refine ⟨v', w', hrun, ?_, (Below.refl B w).grown hgr hB (fun q hq => (World.ownsRow.lt h1 q hq).1), hgr⟩
    rw [flat_append, List.length_append]
    exact ho
  rcases h2.2 with ⟨rfl, h0⟩ | ⟨g, cap, cur, hu, _⟩
  · have hk : k = [] := List.length_eq_zero_iff.1 h0
    subst hk
    rw [List.append_nil]
    exact ⟨v, w, run_append_owned_none w B 31 31 41 i0 2 Tryd.underlying31 hi _ _ _ h1, h1, Below.refl B w, ⟨rfl, rfl, rfl, Nat.le_refl _, fun _ _ _ => rfl⟩⟩
  · exact some_case g cap hu (World.ownsRow.cells h2 (g := g) (by rw [hu]; rfl))
-- WALK
theorem owns_mono {w : World} {B B' : Nat} {e : TypeId} {size : Nat} {v : Value} {n : Nat} {xs : List Value} (h : w.ownsRow B e size v n xs) (hB : B' ≤ B) : w.ownsRow B' e size v n xs := by
  refine ⟨h.1, ?_⟩
  rcases h.2 with h | ⟨g, cap, cur, h1, h2, h3⟩
  · exact .inl h
  · exact .inr ⟨g, cap, cur, h1, by omega, h3⟩
/-- the first k words are joined -/
def orTo (S T : Nat → Bool) (k : Nat) : Nat → Bool := fun n => if n < 64 * k then S n || T n else S n
theorem orTo_at (S T : Nat → Bool) (k : Nat) : word (orTo S T k) k = word S k := word_congr fun j _ => by unfold orTo; rw [if_neg (by omega)]
theorem orTo_next (S T : Nat → Bool) (k : Nat) : word (orTo S T (k + 1)) k = word S k ||| word T k := by
  unfold word
  rw [num_or]
  refine num_congr fun j hj => ?_
  unfold orTo
  rw [if_pos (by omega)]
theorem orTo_other (S T : Nat → Bool) (k j : Nat) (h : j ≠ k) : word (orTo S T (k + 1)) j = word (orTo S T k) j := word_congr fun m _ => by
  unfold orTo
  rcases Nat.lt_or_gt_of_ne h with h | h
  · rw [if_pos (by omega), if_pos (by omega)]
  · rw [if_neg (by omega), if_neg (by omega)]
theorem or_step {W : World} {b k : Nat} {S T : Nat → Bool} (h : Box W b (orTo S T k)) (z : Int) (hz : z = ((word S k ||| word T k : Nat) : Int)) : Box (W.setCell ⟨b, k, none⟩ (.int .u64 z)) b (orTo S T (k + 1)) := by
  have := h.set (T := orTo S T (k + 1)) k fun j _ => by
    by_cases e : j = k
    · subst e; simp
    · rw [if_neg e]; exact orTo_other S T k j e
  rw [orTo_next, ← hz] at this
  exact this
theorem box_grown {w w' : World} {b : Nat} {S : Nat → Bool} {row : Option Nat} (h : Box w b S) (hg : w.grownBy w' row) (hne : ∀ q, row = some q → q ≠ b) : Box w' b S :=
  (hg.block b h.lt (fun e => hne b e.symm rfl)).trans h

end Go.Proofs.YtlgghndpagoalaaDoor
