/- Letters in memory. -/
import Derived.Test.YtjcfbnhmljlkpaaLkModel
import Derived.Laws.OwnMore
import Derived.Great.BuildSlice
namespace Go.Proofs.Ytjcfbnhmljlkpaa
open Go.RowKit

abbrev txt (s : List UInt8) : Value := .string ⟨s.toArray⟩
/-- a letter's cells: where its rows lie -/
def ltC (x : Lt) (ap : Option Addr) (ac : Nat) (rp : Option Addr) (rc : Nat) : Array Value :=
  #[.int .i64 x.kind, .int .i64 x.number, .int .i64 x.slot, .int .i64 x.ends, txt x.key, txt x.text, .slice ap x.args.length ac, .int .i64 x.reply.kind, .int .i64 x.reply.int, txt x.reply.text, .slice rp x.reply.list.length rc, .bool x.good, .int .i64 x.asking]
/-- its rows may be read; they lie in blocks of P -/
structure LtR (P : Nat → Prop) (w : World) (x : Lt) (ap rp : Option Addr) : Prop where
  args : x.args ≠ [] → ∃ b o, ap = some ⟨b, o, none⟩ ∧ P b ∧ ∀ i (h : i < x.args.length), w.cell? ⟨b, o + i, none⟩ = some (txt x.args[i])
  list : ∃ d, RowOf P w (Rp P w d) rp x.reply.list
  fit : Fit x.reply
theorem LtR.turn {P Q : Nat → Prop} {w w' : World} {x : Lt} {ap rp : Option Addr} (h : LtR P w x ap rp) (hk : ∀ b, P b → b < w.heap.size → Q b ∧ w'.heap[b]? = w.heap[b]?) : LtR Q w' x ap rp := by
  refine ⟨fun hne => ?_, ?_, h.fit⟩
  · obtain ⟨b, o, e, hp, hc⟩ := h.args hne
    have h0 := hc 0 (List.length_pos_iff.2 hne)
    obtain ⟨k1, k2⟩ := hk b hp (block_lt_of_cell h0)
    exact ⟨b, o, e, k1, fun i hi => cell_turn (hc i hi) k2⟩
  · obtain ⟨d, hd⟩ := h.list
    exact ⟨d, hd.turn hk (Nat.le_refl _)⟩
theorem LtR.below {P : Nat → Prop} {w w' : World} {x : Lt} {ap rp : Option Addr} (h : LtR P w x ap rp) {n : Nat} (hb : Below n w w') (hn : w.heap.size ≤ n) : LtR P w' x ap rp :=
  h.turn (fun b hp hlt => ⟨hp, hb.block b (by omega)⟩)
theorem LtR.all {P : Nat → Prop} {w : World} {x : Lt} {ap rp : Option Addr} (h : LtR P w x ap rp) : LtR All w x ap rp := h.turn (fun _ _ _ => ⟨trivial, rfl⟩)
/-- a letter on its way, and where its rows lie -/
structure Wm where
  y : Wy
  ap : Option Addr
  ac : Nat
  rp : Option Addr
  rc : Nat
def Wm.cells (m : Wm) : Array Value :=
  #[.int .i64 m.y.frm, .int .i64 m.y.dst, .int .i64 m.y.x.kind, .int .i64 m.y.x.number, .int .i64 m.y.x.slot, .int .i64 m.y.x.ends, txt m.y.x.key, txt m.y.x.text, .slice m.ap m.y.x.args.length m.ac, .int .i64 m.y.x.reply.kind, .int .i64 m.y.x.reply.int, txt m.y.x.reply.text, .slice m.rp m.y.x.reply.list.length m.rc, .bool m.y.x.good, .int .i64 m.y.x.asking]
def flatW (R : List Wm) : List Value := R.flatMap fun x => x.cells.toList
theorem flatW_app (l m : List Wm) : flatW (l ++ m) = flatW l ++ flatW m := List.flatMap_append
theorem flatW_len (l : List Wm) : (flatW l).length = l.length * 15 := by
  induction l with
  | nil => rfl
  | cons x l ih => show (x.cells.toList ++ flatW l).length = _; rw [List.length_append, ih]; simp [Wm.cells]; omega
theorem flatW_at : ∀ (l : List Wm) (i : Nat) (h : i < l.length) (j : Nat), j < 15 → (flatW l)[i * 15 + j]? = l[i].cells[j]?
  | x :: l, 0, _, j, hj => by
    show (x.cells.toList ++ flatW l)[0 * 15 + j]? = _
    rw [List.getElem?_append_left (by simp [Wm.cells]; omega)]
    simp
  | x :: l, i + 1, h, j, hj => by
    have := flatW_at l i (by simpa using h) j hj
    have e15 : x.cells.toList.length = 15 := rfl
    show (x.cells.toList ++ flatW l)[(i + 1) * 15 + j]? = _
    rw [List.getElem?_append_right (by rw [e15]; omega), e15]
    rw [show (i + 1) * 15 + j - 15 = i * 15 + j by omega]
    simpa using this
/-- a row of letters of the call's own -/
abbrev OwnW (B : Nat) (w : World) (v : Value) (R : List Wm) : Prop := w.ownsRow B 56 15 v R.length (flatW R)
theorem OwnW.shape {B : Nat} {w : World} {v : Value} {R : List Wm} (h : OwnW B w v R) : ∃ q d, v = .slice q R.length d := by
  rcases h.2 with ⟨rfl, h0⟩ | ⟨g, cap, cur, rfl, _⟩
  · exact ⟨none, 0, by rw [h0]⟩
  · exact ⟨_, cap, rfl⟩
/-- a row of letters that may be read; it lies in blocks of G, and what they point to in blocks of P -/
structure Rdw (G P : Nat → Prop) (w : World) (p : Option Addr) (R : List Wm) : Prop where
  at15 : R ≠ [] → ∃ b o, p = some ⟨b, o, none⟩ ∧ G b ∧ b < w.heap.size ∧ ∀ i (h : i < R.length) (j : Nat), j < 15 → w.cell? ⟨b, o + (i * 15 + j), none⟩ = R[i].cells[j]?
  lies : ∀ m ∈ R, LtR P w m.y.x m.ap m.rp
theorem Rdw.turn {G P G' P' : Nat → Prop} {w w' : World} {p : Option Addr} {R : List Wm} (h : Rdw G P w p R) (hs : w.heap.size ≤ w'.heap.size) (hg : ∀ b, G b → b < w.heap.size → G' b ∧ w'.heap[b]? = w.heap[b]?) (hk : ∀ b, P b → b < w.heap.size → P' b ∧ w'.heap[b]? = w.heap[b]?) : Rdw G' P' w' p R := by
  refine ⟨fun hne => ?_, fun m hm => (h.lies m hm).turn hk⟩
  obtain ⟨b, o, rfl, hp, hl, hc⟩ := h.at15 hne
  obtain ⟨k1, k2⟩ := hg b hp hl
  refine ⟨b, o, rfl, k1, Nat.lt_of_lt_of_le hl hs, fun i hi j hj => ?_⟩
  rw [World.cell?_of_block (w := w) k2]
  exact hc i hi j hj
theorem Rdw.below {G P : Nat → Prop} {w w' : World} {p : Option Addr} {R : List Wm} (h : Rdw G P w p R) (k : Below w.heap.size w w') : Rdw G P w' p R :=
  h.turn k.size (fun b hp hlt => ⟨hp, k.block b hlt⟩) (fun b hp hlt => ⟨hp, k.block b hlt⟩)
theorem Rdw.nilRow (G P : Nat → Prop) (w : World) (p : Option Addr) : Rdw G P w p [] := ⟨fun h => absurd rfl h, fun _ h => by cases h⟩
theorem OwnW.rdw {B : Nat} {P : Nat → Prop} {w : World} {q : Option Addr} {n d : Nat} {R : List Wm} (h : OwnW B w (.slice q n d) R) (hl : ∀ m ∈ R, LtR P w m.y.x m.ap m.rp) : Rdw (fun k => B ≤ k) P w q R := by
  rcases h.2 with ⟨h1, h0⟩ | ⟨g, cap, cur, h1, h2, h3, h4, _⟩
  · rw [List.length_eq_zero_iff.1 h0]
    exact Rdw.nilRow _ P w q
  · injection h1 with e1 e2 e3
    subst e1 e2 e3
    refine ⟨fun _ => ⟨g, 0, rfl, h2, (Array.getElem?_eq_some_iff.1 h3).1, fun i hi j hj => ?_⟩, hl⟩
    have e := flatW_at R i hi j hj
    have hs : j < R[i].cells.size := hj
    rw [Array.getElem?_eq_getElem hs] at e ⊢
    have c0 := World.ownsRow.cells h (g := g) rfl (i * 15 + j) _ e
    rwa [Go.WideShapes.add_plain] at c0
/-- a letter's cells, where it lies in a row -/
theorem Rdw.facts {G P : Nat → Prop} {w : World} {p : Option Addr} {R : List Wm} (h : Rdw G P w p R) (i : Nat) (hi : i < R.length) : ∃ b o, p = some ⟨b, o, none⟩ ∧ G b ∧ b < w.heap.size ∧ (∀ j, j < 15 → w.cell? ⟨b, o + i * 15 + j, none⟩ = R[i].cells[j]?) := by
  obtain ⟨b, o, e, hp, hl, hc⟩ := h.at15 (fun e => by rw [e] at hi; simp at hi)
  have g := fun j hj => hc i hi j hj
  simp only [← Nat.add_assoc] at g
  exact ⟨b, o, e, hp, hl, g⟩
theorem infoW : (Try.prog.info? 56).map (fun i => (i.zero, i.size, i.bytes)) = some (some (.agg #[.int .i64 0, .int .i64 0, .int .i64 0, .int .i64 0, .int .i64 0, .int .i64 0, .string ⟨#[]⟩, .string ⟨#[]⟩, .slice none 0 0, .int .i64 0, .int .i64 0, .string ⟨#[]⟩, .slice none 0 0, .bool false, .int .i64 0]), 15, 176) := by kernel_rfl
/-- a letter is put behind -/
theorem OwnW.push {B : Nat} {W : World} {v : Value} {R : List Wm} (h : OwnW B W v R) (hB : B ≤ W.heap.size) (x : Wm) (hl : R.length ≤ 1000000) :
    ∃ v' W', (Builtin.append_ #[27, 27] 27 #[v, .slice (some ⟨W.heap.size, 0, none⟩) 1 1]).run Try.prog (W.alloc (.cells x.cells 56)) = .ok v' W' ∧ OwnW B W' v' (R ++ [x]) ∧ Below B W W' := by
  obtain ⟨i0, hi, hz0, hz1, hz2⟩ := info_parts infoW
  have hb := below_alloc W (.cells x.cells 56)
  have ho := owns_below h hb
  have hnews : ∀ j u, x.cells.toList[j]? = some u → (W.alloc (.cells x.cells 56)).cell? ((⟨W.heap.size, 0, none⟩ : Addr).add j) = some u := fun j u hj => by
    rw [Go.WideShapes.add_plain, cell_of_row _ _ _ _ _ _ (heap_alloc_new W _)]
    simpa using hj
  have hone : ∀ u ∈ x.cells.toList, u.oneCell' = true := by
    intro u hu
    simp only [Wm.cells, List.mem_cons, List.not_mem_nil, or_false] at hu
    rcases hu with rfl | rfl | rfl | rfl | rfl | rfl | rfl | rfl | rfl | rfl | rfl | rfl | rfl | rfl | rfl <;> rfl
  obtain ⟨v', w', hrun, ho', hgr, _⟩ := run_append_own (P := Try.prog) (W.alloc (.cells x.cells 56)) B 27 27 56 i0 _ 15 176 Try.underlying27 hi hz0 hz1 hz2 rfl (by decide) _ _ _ ho ⟨W.heap.size, 0, none⟩ 1 1 x.cells.toList rfl hnews hone (by unfold maxLen; omega) (by omega) (by have := hb.size; omega)
  refine ⟨v', w', hrun, ?_, (hb.mono hB).trans ((Below.refl B _).grown hgr (Nat.le_trans hB hb.size) (fun k hk => (World.ownsRow.lt ho k hk).1))⟩
  show w'.ownsRow B _ 15 v' (R ++ [x]).length (flatW (R ++ [x]))
  rw [List.length_append, flatW_app]
  have e : flatW [x] = x.cells.toList := by simp [flatW]
  rw [e]
  exact ho'
theorem fill_get (off : Nat) : ∀ (l : List Value) (k : Nat) (cells : Array Value) (i : Nat), (((l.zipIdx k).foldl (fun cs (x : Value × Nat) => cs.setIfInBounds (off + x.2) x.1) cells))[i]? = if off + k ≤ i ∧ i < off + k + l.length ∧ i < cells.size then l[i - off - k]? else cells[i]?
  | [], k, cells, i => by
    rw [if_neg (by simp only [List.length_nil]; omega)]; rfl
  | v :: l, k, cells, i => by
    rw [List.zipIdx_cons, List.foldl_cons, fill_get off l (k + 1)]
    simp only [Array.size_setIfInBounds, List.length_cons]
    by_cases h1 : off + (k + 1) ≤ i ∧ i < off + (k + 1) + l.length ∧ i < cells.size
    · rw [if_pos h1, if_pos (by omega), show i - off - k = (i - off - (k + 1)) + 1 by omega, List.getElem?_cons_succ]
    · rw [if_neg h1]
      by_cases h2 : i = off + k
      · subst h2
        by_cases h3 : off + k < cells.size
        · rw [if_pos (by omega), Array.getElem?_setIfInBounds_self_of_lt h3, show off + k - off - k = 0 by omega]; rfl
        · rw [if_neg (by omega), Array.getElem?_eq_none (by simp; omega), Array.getElem?_eq_none (by omega)]
      · rw [Array.getElem?_setIfInBounds_ne (fun e => h2 e.symm), if_neg (by omega)]
theorem fill_row (a b c : Array Value) (h : c.size = b.size) : (c.zipIdx.foldl (fun cs (x : Value × Nat) => cs.setIfInBounds (a.size + x.2) x.1) (a ++ b)) = a ++ c := by
  have e : c.zipIdx.foldl (fun cs (x : Value × Nat) => cs.setIfInBounds (a.size + x.2) x.1) (a ++ b) = (c.toList.zipIdx 0).foldl (fun cs (x : Value × Nat) => cs.setIfInBounds (a.size + x.2) x.1) (a ++ b) := by
    rw [← Array.foldl_toList, Array.toList_zipIdx]
  rw [e]
  apply Array.ext_getElem?
  intro i
  rw [fill_get]
  simp only [Nat.add_zero, Array.length_toList, Nat.sub_zero, Array.size_append]
  by_cases h1 : i < a.size
  · rw [if_neg (by omega), Array.getElem?_append_left h1, Array.getElem?_append_left h1]
  · rw [Array.getElem?_append_right (by omega), Array.getElem?_append_right (by omega)]
    by_cases h2 : i < a.size + c.size
    · rw [if_pos (by omega), Array.getElem?_toList]
    · rw [if_neg (by omega), Array.getElem?_eq_none (by omega), Array.getElem?_eq_none (by omega)]
theorem infoWt : (Try.prog.info? 56).map (fun i => (i.zero.isSome, i.size)) = some (true, 15) := by kernel_rfl
theorem run_bsliceW (CW : Array Value) (hs : CW.size = 15) (w : World) : (Instr.buildSlice 27 1 #[(0, .agg CW)]).run Try.prog w = .ok (.slice (some ⟨w.heap.size, 0, none⟩) 1 1) (w.alloc (.cells CW 56)) := by
  have hi := infoWt
  cases hi0 : Try.prog.info? 56 with
  | none => rw [hi0] at hi; cases hi
  | some i0 =>
    rw [hi0] at hi
    simp only [Option.map_some, Option.some.injEq, Prod.mk.injEq] at hi
    obtain ⟨hz0, hz1⟩ := hi
    obtain ⟨z, hz⟩ := Option.isSome_iff_exists.1 hz0
    refine run_buildSlice w 27 56 1 _ CW i0 z Try.underlying27 hi0 hz (by rw [hz1]; decide) (by rw [hz1]; decide) ?_
    rw [hz1]
    generalize hB : (Array.range (1 * 15)).map (z.cells[· % z.cells.size]!) = B
    have hBs : B.size = 15 := by rw [← hB]; simp
    show Instr.fill (fun i => some (i * 15, 15)) B [(0, .agg CW)] = some CW
    simp only [Instr.fill, Value.cells, hs, hBs]
    rw [if_neg (by simp)]
    refine congrArg some ?_
    have := fill_row #[] B CW (by rw [hs, hBs])
    simpa using this
theorem wp_bsliceW {o : Oper} {a : Act} {w : World} {K : Act → World → Prop} {Q : Exit → Act → World → Prop} (x : Operand) (ho : o.op = .buildSlice 27 1 #[(0, x)]) (CW : Array Value) (hx : a.eval x = .agg CW) (hs : CW.size = 15)
    (h : K (a.put o.dst (.slice (some ⟨w.heap.size, 0, none⟩) 1 1)) (w.alloc (.cells CW 56))) : o.wp Try.prog a w K Q := by
  unfold Oper.wp execOp
  simp only [ho, List.map_toArray, List.map_cons, List.map_nil, hx, Sem.run_bind, run_bsliceW CW hs w, Result.andThen_ok]
  exact h
theorem wpList_bsliceW {ops : Array Oper} {rest : List Oper} {o : Oper} {a : Act} {w : World} {Q : Exit → Act → World → Prop} (hg : o.guard = none) (x : Operand) (ho : o.op = .buildSlice 27 1 #[(0, x)]) (CW : Array Value) (hx : a.eval x = .agg CW) (hs : CW.size = 15)
    (h : wpList Try.prog ops Q rest (a.put o.dst (.slice (some ⟨w.heap.size, 0, none⟩) 1 1)) (w.alloc (.cells CW 56))) : wpList Try.prog ops Q (o :: rest) a w :=
  wpList_plain hg fun _ hK => wp_bsliceW x ho CW hx hs (hK _ _ h)

end Go.Proofs.Ytjcfbnhmljlkpaa
