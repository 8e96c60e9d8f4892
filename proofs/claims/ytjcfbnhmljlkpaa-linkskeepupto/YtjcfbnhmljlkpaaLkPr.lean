/- Rows of pairs of ends. -/
import Derived.Test.YtjcfbnhmljlkpaaLkRef2
import Derived.RegionTactic
import Derived.Deep.RegionLaw
namespace Go.Proofs.Ytjcfbnhmljlkpaa
open Go.RowKit

abbrev prC (p : Int × Int) : Array Value := #[.int .i64 p.1, .int .i64 p.2]
def flatP (l : List (Int × Int)) : List Value := l.flatMap fun p => [.int .i64 p.1, .int .i64 p.2]
theorem flatP_app (l m : List (Int × Int)) : flatP (l ++ m) = flatP l ++ flatP m := List.flatMap_append
theorem flatP_at : ∀ (l : List (Int × Int)) (i : Nat) (h : i < l.length), (flatP l)[i * 2]? = some (.int .i64 l[i].1) ∧ (flatP l)[i * 2 + 1]? = some (.int .i64 l[i].2)
  | x :: l, 0, _ => ⟨rfl, rfl⟩
  | x :: l, i + 1, h => by
    have := flatP_at l i (by simpa using h)
    rw [show (i + 1) * 2 = i * 2 + 1 + 1 by omega]
    exact this
/-- a row of pairs of the call's own -/
abbrev OwnP (B : Nat) (w : World) (v : Value) (l : List (Int × Int)) : Prop := w.ownsRow B 41 2 v l.length (flatP l)
theorem OwnP.shape {B : Nat} {w : World} {v : Value} {l : List (Int × Int)} (h : OwnP B w v l) : ∃ q d, v = .slice q l.length d := by
  rcases h.2 with ⟨rfl, h0⟩ | ⟨g, cap, cur, rfl, _⟩
  · exact ⟨none, 0, by rw [h0]⟩
  · exact ⟨_, cap, rfl⟩
/-- a row of pairs that may be read -/
def RdP (G : Nat → Prop) (w : World) (p : Option Addr) (l : List (Int × Int)) : Prop :=
  l ≠ [] → ∃ b o, p = some ⟨b, o, none⟩ ∧ G b ∧ b < w.heap.size ∧ ∀ i (h : i < l.length), w.cell? ⟨b, o + i * 2, none⟩ = some (.int .i64 l[i].1) ∧ w.cell? ⟨b, o + i * 2 + 1, none⟩ = some (.int .i64 l[i].2)
theorem RdP.turn {G G' : Nat → Prop} {w w' : World} {p : Option Addr} {l : List (Int × Int)} (h : RdP G w p l) (hs : w.heap.size ≤ w'.heap.size) (hg : ∀ b, G b → b < w.heap.size → G' b ∧ w'.heap[b]? = w.heap[b]?) : RdP G' w' p l := fun hne => by
  obtain ⟨b, o, rfl, hp, hl, hc⟩ := h hne
  obtain ⟨k1, k2⟩ := hg b hp hl
  refine ⟨b, o, rfl, k1, Nat.lt_of_lt_of_le hl hs, fun i hi => ?_⟩
  obtain ⟨c1, c2⟩ := hc i hi
  exact ⟨cell_turn c1 k2, cell_turn c2 k2⟩
theorem RdP.below {G : Nat → Prop} {w w' : World} {p : Option Addr} {l : List (Int × Int)} (h : RdP G w p l) (k : Below w.heap.size w w') : RdP G w' p l :=
  h.turn k.size (fun b hp hlt => ⟨hp, k.block b hlt⟩)
theorem OwnP.rd {B : Nat} {w : World} {q : Option Addr} {n d : Nat} {l : List (Int × Int)} (h : OwnP B w (.slice q n d) l) : RdP (fun k => B ≤ k) w q l := by
  intro hne
  rcases h.2 with ⟨h1, h0⟩ | ⟨g, cap, cur, h1, h2, h3, h4, _⟩
  · exact absurd (List.length_eq_zero_iff.1 h0) hne
  · injection h1 with e1 e2 e3
    subst e1 e2 e3
    refine ⟨g, 0, rfl, h2, (Array.getElem?_eq_some_iff.1 h3).1, fun i hi => ?_⟩
    obtain ⟨a1, a2⟩ := flatP_at l i hi
    have c0 := World.ownsRow.cells h (g := g) rfl _ _ a1
    have c1 := World.ownsRow.cells h (g := g) rfl _ _ a2
    rw [Go.WideShapes.add_plain] at c0 c1
    rw [Nat.add_assoc]
    exact ⟨c0, c1⟩
theorem infoP : (Try.prog.info? 41).map (fun i => (i.zero, i.size, i.bytes)) = some (some (.agg #[.int .i64 0, .int .i64 0]), 2, 16) := by kernel_rfl
/-- a pair is put behind -/
theorem OwnP.push {B : Nat} {W : World} {v : Value} {l : List (Int × Int)} (h : OwnP B W v l) (hB : B ≤ W.heap.size) (x : Int × Int) (hl : l.length ≤ 2000000) :
    ∃ v' W', (Builtin.append_ #[48, 48] 48 #[v, .slice (some ⟨W.heap.size, 0, none⟩) 1 1]).run Try.prog (W.alloc (.cells (prC x) 41)) = .ok v' W' ∧ OwnP B W' v' (l ++ [x]) ∧ Below B W W' := by
  obtain ⟨i0, hi, hz0, hz1, hz2⟩ := info_parts infoP
  have hb := below_alloc W (.cells (prC x) 41)
  have ho := owns_below h hb
  have hnews : ∀ j u, (prC x).toList[j]? = some u → (W.alloc (.cells (prC x) 41)).cell? ((⟨W.heap.size, 0, none⟩ : Addr).add j) = some u := fun j u hj => by
    rw [Go.WideShapes.add_plain, cell_of_row _ _ _ _ _ _ (heap_alloc_new W _)]
    simpa using hj
  have hone : ∀ u ∈ (prC x).toList, u.oneCell' = true := by
    intro u hu
    simp only [List.mem_cons, List.not_mem_nil, or_false] at hu
    rcases hu with rfl | rfl <;> rfl
  obtain ⟨v', w', hrun, ho', hgr, _⟩ := run_append_own (P := Try.prog) (W.alloc (.cells (prC x) 41)) B 48 48 41 i0 _ 2 16 Try.underlying48 hi hz0 hz1 hz2 rfl (by decide) _ _ _ ho ⟨W.heap.size, 0, none⟩ 1 1 (prC x).toList rfl hnews hone (by unfold maxLen; omega) (by omega) (by have := hb.size; omega)
  refine ⟨v', w', hrun, ?_, (hb.mono hB).trans ((Below.refl B _).grown hgr (Nat.le_trans hB hb.size) (fun k hk => (World.ownsRow.lt ho k hk).1))⟩
  show w'.ownsRow B _ 2 v' (l ++ [x]).length (flatP (l ++ [x]))
  rw [List.length_append, flatP_app]
  have e : flatP [x] = (prC x).toList := by simp [flatP]
  rw [e]
  exact ho'
theorem infoPt : (Try.prog.info? 41).map (fun i => (i.zero.isSome, i.size)) = some (true, 2) := by kernel_rfl
theorem run_bsliceP (C : Array Value) (hs : C.size = 2) (w : World) : (Instr.buildSlice 48 1 #[(0, .agg C)]).run Try.prog w = .ok (.slice (some ⟨w.heap.size, 0, none⟩) 1 1) (w.alloc (.cells C 41)) := by
  have hi := infoPt
  cases hi0 : Try.prog.info? 41 with
  | none => rw [hi0] at hi; cases hi
  | some i0 =>
    rw [hi0] at hi
    simp only [Option.map_some, Option.some.injEq, Prod.mk.injEq] at hi
    obtain ⟨hz0, hz1⟩ := hi
    obtain ⟨z, hz⟩ := Option.isSome_iff_exists.1 hz0
    refine run_buildSlice w 48 41 1 _ C i0 z Try.underlying48 hi0 hz (by rw [hz1]; decide) (by rw [hz1]; decide) ?_
    rw [hz1]
    generalize hB : (Array.range (1 * 2)).map (z.cells[· % z.cells.size]!) = B
    have hBs : B.size = 2 := by rw [← hB]; simp
    show Instr.fill (fun i => some (i * 2, 2)) B [(0, .agg C)] = some C
    simp only [Instr.fill, Value.cells, hs, hBs]
    rw [if_neg (by simp)]
    refine congrArg some ?_
    have := fill_row #[] B C (by rw [hs, hBs])
    simpa using this
theorem wpList_bsliceP {ops : Array Oper} {rest : List Oper} {o : Oper} {a : Act} {w : World} {Q : Exit → Act → World → Prop} (hg : o.guard = none) (x : Operand) (ho : o.op = .buildSlice 48 1 #[(0, x)]) (C : Array Value) (hx : a.eval x = .agg C) (hs : C.size = 2)
    (h : wpList Try.prog ops Q rest (a.put o.dst (.slice (some ⟨w.heap.size, 0, none⟩) 1 1)) (w.alloc (.cells C 41))) : wpList Try.prog ops Q (o :: rest) a w :=
  wpList_plain hg fun _ hK => by
    unfold Oper.wp execOp
    simp only [ho, List.map_toArray, List.map_cons, List.map_nil, hx, Sem.run_bind, run_bsliceP C hs w, Result.andThen_ok]
    exact hK _ _ h
/-- == of ends -/
theorem eq_ends (a b c d : Int) (w : World) : (Op.equalIn 10000 41 (.agg #[.int .i64 a, .int .i64 b]) (.agg #[.int .i64 c, .int .i64 d])).run Try.prog w = .ok (a == c && b == d) w := by
  have u3 := Try.underlying3
  have a3 := Try.isAgg3
  have z3 := Try.sizeOf3
  rw [show (10000 : Nat) = 9999 + 1 from rfl, Op.equalIn]
  simp only [Sem.run_bind, run_underlying Try.underlying41, Result.andThen_ok]
  simp only [Std.Legacy.Range.forIn_eq_forIn_range', Std.Legacy.Range.size, Nat.sub_zero, Nat.add_sub_cancel, Nat.div_one, List.range'_succ, List.range'_zero, List.forIn_cons, List.forIn_nil]
  go_simp
  by_cases h1 : a = c <;> by_cases h2 : b = d <;> simp [h1, h2]
set_option maxHeartbeats 1000000 in
set_option maxRecDepth 100000 in
/-- before -/
theorem rbefore_any (p q : Int × Int) (w : World) :
    Calls Try.prog 32 #[.agg (prC p), .agg (prC q)] w fun e w' => e = .returned (.bool (befV p q)) ∧ Hid (Below w.heap.size w w') := by
  obtain ⟨a, b⟩ := p
  obtain ⟨c, d⟩ := q
  have hbv : befV (a, b) (c, d) = (decide (a < c) || (decide (a = c) && decide (b < d))) := rfl
  rw [hbv]
  have HB := hid ((below_alloc w (.cells (prC (a, b)) 41)).trans ((below_alloc (w.alloc (.cells (prC (a, b)) 41)) (.cells (prC (c, d)) 41)).mono (by simp)))
  by_cases h1 : a < c
  · have e1 : decide (a < c) = true := decide_eq_true h1
    rw [e1, Bool.true_or]
    go_enter Try.func32, Try.ntmps32
    go_wp2_with fail
    go_ret
    exact ⟨rfl, HB.out⟩
  · have e1 : decide (a < c) = false := decide_eq_false h1
    rw [e1, Bool.false_or]
    by_cases h2 : a = c
    · subst h2
      have e2 : (a == a) = true := beq_self_eq_true _
      rw [decide_eq_true rfl, Bool.true_and]
      go_enter Try.func32, Try.ntmps32
      go_wp2_with fail
      go_ret
      exact ⟨rfl, HB.out⟩
    · have e2 : (a == c) = false := beq_eq_false_iff_ne.2 h2
      rw [decide_eq_false h2, Bool.false_and]
      go_enter Try.func32, Try.ntmps32
      go_wp2_with fail
      go_ret
      exact ⟨rfl, HB.out⟩

end Go.Proofs.Ytjcfbnhmljlkpaa
