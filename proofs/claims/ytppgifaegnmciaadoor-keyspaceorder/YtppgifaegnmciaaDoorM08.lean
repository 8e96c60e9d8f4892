/- EBase, RefDel. -/
import Derived.Test.YtppgifaegnmciaaDoorM04
namespace Go.Proofs.YtppgifaegnmciaaDoor
open Go.RowKit

/-- an entry, and where its value's rows lie -/
structure E8 where
  key : Nm
  m : Vl
  pp : Option Addr
  pc : Nat
  ip : Option Addr
  ic : Nat
  ends : Int
abbrev E8.cells (x : E8) : Array Value := #[txt x.key, .int .i64 x.m.kind, txt x.m.text, .slice x.pp x.m.pairs.length x.pc, .slice x.ip x.m.items.length x.ic, .int .i64 x.m.px, .int .i64 x.m.py, .int .i64 x.ends]
abbrev ev (x : E8) : Value := .agg x.cells
abbrev eob (x : E8) : Obj := .cells x.cells 36
/-- what it points to lies in blocks of P -/
structure Lies (P : Nat → Prop) (w : World) (x : E8) : Prop where
  vi : VI w x.m x.pp x.pc x.ip x.ic
  pairs : x.m.pairs ≠ [] → ∀ a, x.pp = some a → P a.block
  items : x.m.items ≠ [] → ∀ a, x.ip = some a → P a.block
theorem prs_keep {P : Nat → Prop} {w w' : World} {p : Option Addr} {l : List (Nm × Nm)} (h : Prs w p l) (hp : l ≠ [] → ∀ a, p = some a → P a.block) (k : Keep P w w') : Prs w' p l := fun hne => by
  obtain ⟨b, o, rfl, hc⟩ := h hne
  have hb := hp hne _ rfl
  exact ⟨b, o, rfl, fun i hi => ⟨cell_turn (hc i hi).1 (k.block b (block_lt_of_cell (hc i hi).1) hb), cell_turn (hc i hi).2 (k.block b (block_lt_of_cell (hc i hi).1) hb)⟩⟩
theorem strs_keep {P : Nat → Prop} {w w' : World} {p : Option Addr} {l : Row} (h : Strs w p l) (hp : l ≠ [] → ∀ a, p = some a → P a.block) (k : Keep P w w') : Strs w' p l := fun hne => by
  obtain ⟨b, o, rfl, hc⟩ := h hne
  have hb := hp hne _ rfl
  exact ⟨b, o, rfl, fun i hi => cell_turn (hc i hi) (k.block b (block_lt_of_cell (hc i hi)) hb)⟩
theorem Lies.keep {P Q : Nat → Prop} {w w' : World} {x : E8} (h : Lies P w x) (k : Keep P w w') (hq : ∀ i, P i → Q i) : Lies Q w' x :=
  ⟨⟨⟨prs_keep h.vi.pairs.prs h.pairs k, h.vi.pairs.nil, h.vi.pairs.cap⟩, ⟨strs_keep h.vi.items.strs h.items k, h.vi.items.nil, h.vi.items.cap⟩⟩, fun hne a ha => hq _ (h.pairs hne a ha), fun hne a ha => hq _ (h.items hne a ha)⟩
theorem Lies.below {P : Nat → Prop} {w w' : World} {x : E8} (h : Lies P w x) (k : Below w.heap.size w w') : Lies P w' x := h.keep (Keep.of_below k) (fun _ h => h)
theorem infoE (c : Array Value) (h : c.size = 8) : (Tryd.prog.info? 36).map (·.size) = some c.size := by
  rw [h]; kernel_rfl
theorem infoE8 : (Tryd.prog.info? 36).map (fun i => (i.zero, i.size, i.bytes)) = some (some (.agg #[.string ⟨#[]⟩, .int .i64 0, .string ⟨#[]⟩, .slice none 0 0, .slice none 0 0, .int .i64 0, .int .i64 0, .int .i64 0]), 8, 112) := by kernel_rfl
theorem ent_facts {w : World} {b : Nat} {c0 c1 c2 c3 c4 c5 c6 c7 : Value} (h : w.heap[b]? = some (.cells #[c0, c1, c2, c3, c4, c5, c6, c7] 36 (0, 0))) :
    w.cell? ⟨b, 0, none⟩ = some c0 ∧ w.cell? ⟨b, 1, none⟩ = some c1 ∧ w.cell? ⟨b, 2, none⟩ = some c2 ∧ w.cell? ⟨b, 3, none⟩ = some c3 ∧ w.cell? ⟨b, 4, none⟩ = some c4 ∧ w.cell? ⟨b, 5, none⟩ = some c5 ∧ w.cell? ⟨b, 6, none⟩ = some c6 ∧ w.cell? ⟨b, 7, none⟩ = some c7 :=
  ⟨cell_of_row w b 0 _ _ _ h, cell_of_row w b 1 _ _ _ h, cell_of_row w b 2 _ _ _ h, cell_of_row w b 3 _ _ _ h, cell_of_row w b 4 _ _ _ h, cell_of_row w b 5 _ _ _ h, cell_of_row w b 6 _ _ _ h, cell_of_row w b 7 _ _ _ h⟩
theorem ent_frozen {w : World} {b : Nat} {c0 c1 c2 c3 c4 c5 c6 c7 : Value} (h : w.heap[b]? = some (.cells #[c0, c1, c2, c3, c4, c5, c6, c7] 36 (0, 0))) :
    w.frozen? ⟨b, 0, none⟩ = false ∧ w.frozen? ⟨b, 1, none⟩ = false ∧ w.frozen? ⟨b, 2, none⟩ = false ∧ w.frozen? ⟨b, 3, none⟩ = false ∧ w.frozen? ⟨b, 4, none⟩ = false ∧ w.frozen? ⟨b, 5, none⟩ = false ∧ w.frozen? ⟨b, 6, none⟩ = false ∧ w.frozen? ⟨b, 7, none⟩ = false :=
  ⟨frozen_of_row w b 0 _ _ h, frozen_of_row w b 1 _ _ h, frozen_of_row w b 2 _ _ h, frozen_of_row w b 3 _ _ h, frozen_of_row w b 4 _ _ h, frozen_of_row w b 5 _ _ h, frozen_of_row w b 6 _ _ h, frozen_of_row w b 7 _ _ h⟩
theorem ent_new (w : World) (x : E8) : (w.alloc (eob x)).heap[w.heap.size]? = some (.cells x.cells 36 (0, 0)) := heap_alloc_new w _
theorem ret_etel {fn : Func} {p q : Tmp} (h : fn.results = #[.cell p 36, .tmp q]) {tmps : Array Value} {w : World} {b : Nat} {c0 c1 c2 c3 c4 c5 c6 c7 v : Value} (hp : tmps.getD p undef = .pointer (some ⟨b, 0, none⟩)) (hq : tmps.getD q undef = v) (hB : w.heap[b]? = some (.cells #[c0, c1, c2, c3, c4, c5, c6, c7] 36 (0, 0))) :
    (results fn tmps).run Tryd.prog w = .ok (.tuple #[.agg #[c0, c1, c2, c3, c4, c5, c6, c7], v]) w := by
  have hp' : tmps[p]?.getD undef = .pointer (some ⟨b, 0, none⟩) := by simpa using hp
  have hq' : tmps[q]?.getD undef = v := by simpa using hq
  simp [results, h, hp', hq', asAddr, run_loadVar_row w b 36 36 #[c0, c1, c2, c3, c4, c5, c6, c7] (0, 0) _ hB Tryd.underlying36 rfl (infoE _ rfl)]
/-- the cells of a row of entries -/
def flat8 (R : List E8) : List Value := R.flatMap fun x => x.cells.toList
theorem flat8_app (l m : List E8) : flat8 (l ++ m) = flat8 l ++ flat8 m := List.flatMap_append
theorem flat8_len (l : List E8) : (flat8 l).length = l.length * 8 := by
  induction l with
  | nil => rfl
  | cons x l ih => show (x.cells.toList ++ flat8 l).length = _; rw [List.length_append, ih]; simp; omega
theorem flat8_at : ∀ (l : List E8) (i : Nat) (h : i < l.length) (j : Nat), j < 8 → (flat8 l)[i * 8 + j]? = l[i].cells[j]?
  | x :: l, 0, _, j, hj => by
    show (x.cells.toList ++ flat8 l)[0 * 8 + j]? = _
    rw [List.getElem?_append_left (by simp; omega)]
    simp
  | x :: l, i + 1, h, j, hj => by
    have := flat8_at l i (by simpa using h) j hj
    show (x.cells.toList ++ flat8 l)[(i + 1) * 8 + j]? = _
    rw [List.getElem?_append_right (by simp; omega)]
    rw [show (i + 1) * 8 + j - x.cells.toList.length = i * 8 + j by simp; omega]
    simpa using this
/-- a row of entries of the call's own -/
abbrev OwnE (B : Nat) (w : World) (v : Value) (R : List E8) : Prop := w.ownsRow B 36 8 v R.length (flat8 R)
theorem OwnE.shape {B : Nat} {w : World} {v : Value} {R : List E8} (h : OwnE B w v R) : ∃ q d, v = .slice q R.length d := by
  rcases h.2 with ⟨rfl, h0⟩ | ⟨g, cap, cur, rfl, _⟩
  · exact ⟨none, 0, by rw [h0]⟩
  · exact ⟨_, cap, rfl⟩
/-- a row of entries that may be read; it lies in blocks of P, and what its entries point to, too -/
structure Rde (P : Nat → Prop) (w : World) (p : Option Addr) (c : Nat) (R : List E8) : Prop where
  at8 : R ≠ [] → ∃ b o, p = some ⟨b, o, none⟩ ∧ P b ∧ b < w.heap.size ∧ ∀ i (h : i < R.length) (j : Nat), j < 8 → w.cell? ⟨b, o + (i * 8 + j), none⟩ = R[i].cells[j]?
  nil : p = none → c = 0
  cap : R.length ≤ c
  lies : ∀ x ∈ R, Lies P w x
theorem Rde.keep {P Q : Nat → Prop} {w w' : World} {p : Option Addr} {c : Nat} {R : List E8} (h : Rde P w p c R) (k : Keep P w w') (hq : ∀ i, P i → Q i) : Rde Q w' p c R := by
  refine ⟨fun hne => ?_, h.nil, h.cap, fun x hx => (h.lies x hx).keep k hq⟩
  obtain ⟨b, o, rfl, hp, hl, hc⟩ := h.at8 hne
  refine ⟨b, o, rfl, hq _ hp, Nat.lt_of_lt_of_le hl k.size, fun i hi j hj => ?_⟩
  rw [World.cell?_of_block (w := w) (k.block b hl hp)]
  exact hc i hi j hj
theorem Rde.below {P : Nat → Prop} {w w' : World} {p : Option Addr} {c : Nat} {R : List E8} (h : Rde P w p c R) (k : Below w.heap.size w w') : Rde P w' p c R := h.keep (Keep.of_below k) (fun _ h => h)
theorem Rde.nilRow (P : Nat → Prop) (w : World) : Rde P w none 0 [] := ⟨fun h => absurd rfl h, fun _ => rfl, Nat.le_refl _, fun _ h => by cases h⟩
theorem OwnE.rde {B : Nat} {P : Nat → Prop} {w : World} {q : Option Addr} {n d : Nat} {R : List E8} (h : OwnE B w (.slice q n d) R) (hp : ∀ k, B ≤ k → P k) (hl : ∀ x ∈ R, Lies P w x) : Rde P w q d R := by
  rcases h.2 with ⟨h1, h0⟩ | ⟨g, cap, cur, h1, h2, h3, h4, _⟩
  · injection h1 with e1 e2 e3
    subst e1 e2 e3
    rw [List.length_eq_zero_iff.1 h0]
    exact Rde.nilRow P w
  · injection h1 with e1 e2 e3
    subst e1 e2 e3
    refine ⟨fun _ => ⟨g, 0, rfl, hp g h2, (Array.getElem?_eq_some_iff.1 h3).1, fun i hi j hj => ?_⟩, (fun h => by cases h), h4, hl⟩
    have e := flat8_at R i hi j hj
    have hs : j < R[i].cells.size := hj
    rw [Array.getElem?_eq_getElem hs] at e ⊢
    have c0 := World.ownsRow.cells h (g := g) rfl (i * 8 + j) _ e
    rwa [Go.WideShapes.add_plain] at c0
/-- an entry's cells, where it lies in a row -/
theorem Rde.facts {P : Nat → Prop} {w : World} {p : Option Addr} {c : Nat} {R : List E8} (h : Rde P w p c R) (i : Nat) (hi : i < R.length) : ∃ b o, p = some ⟨b, o, none⟩ ∧ P b ∧ b < w.heap.size ∧
    w.cell? ⟨b, o + i * 8, none⟩ = some (txt R[i].key) ∧ w.cell? ⟨b, o + i * 8 + 1, none⟩ = some (.int .i64 R[i].m.kind) ∧ w.cell? ⟨b, o + i * 8 + 2, none⟩ = some (txt R[i].m.text) ∧ w.cell? ⟨b, o + i * 8 + 3, none⟩ = some (.slice R[i].pp R[i].m.pairs.length R[i].pc) ∧ w.cell? ⟨b, o + i * 8 + 4, none⟩ = some (.slice R[i].ip R[i].m.items.length R[i].ic) ∧ w.cell? ⟨b, o + i * 8 + 5, none⟩ = some (.int .i64 R[i].m.px) ∧ w.cell? ⟨b, o + i * 8 + 6, none⟩ = some (.int .i64 R[i].m.py) ∧ w.cell? ⟨b, o + i * 8 + 7, none⟩ = some (.int .i64 R[i].ends) := by
  obtain ⟨b, o, e, hp, hl, hc⟩ := h.at8 (fun e => by rw [e] at hi; simp at hi)
  have g := fun j hj => hc i hi j hj
  simp only [← Nat.add_assoc] at g
  exact ⟨b, o, e, hp, hl, g 0 (by decide), g 1 (by decide), g 2 (by decide), g 3 (by decide), g 4 (by decide), g 5 (by decide), g 6 (by decide), g 7 (by decide)⟩
/-- an entry is put behind -/
theorem OwnE.push {B : Nat} {W : World} {v : Value} {R : List E8} (h : OwnE B W v R) (hB : B ≤ W.heap.size) (x : E8) (hl : R.length ≤ 1000000) :
    ∃ v' W', (Builtin.append_ #[39, 39] 39 #[v, .slice (some ⟨W.heap.size, 0, none⟩) 1 1]).run Tryd.prog (W.alloc (eob x)) = .ok v' W' ∧ OwnE B W' v' (R ++ [x]) ∧ Below B W W' := by
  obtain ⟨i0, hi, hz0, hz1, hz2⟩ := info_parts infoE8
  have hb := below_alloc W (eob x)
  have ho := owns_below h hb
  have hnews : ∀ j u, x.cells.toList[j]? = some u → (W.alloc (eob x)).cell? ((⟨W.heap.size, 0, none⟩ : Addr).add j) = some u := fun j u hj => by
    rw [Go.WideShapes.add_plain, cell_of_row _ _ _ _ _ _ (heap_alloc_new W _)]
    simpa using hj
  have hone : ∀ u ∈ x.cells.toList, u.oneCell' = true := by
    intro u hu
    simp only [List.mem_cons, List.not_mem_nil, or_false] at hu
    rcases hu with rfl | rfl | rfl | rfl | rfl | rfl | rfl | rfl <;> rfl
  obtain ⟨v', w', hrun, ho', hgr, _⟩ := run_append_own (P := Tryd.prog) (W.alloc (eob x)) B 39 39 36 i0 (.agg #[.string ⟨#[]⟩, .int .i64 0, .string ⟨#[]⟩, .slice none 0 0, .slice none 0 0, .int .i64 0, .int .i64 0, .int .i64 0]) 8 112 Tryd.underlying39 hi hz0 hz1 hz2 rfl (by decide) _ _ _ ho ⟨W.heap.size, 0, none⟩ 1 1 x.cells.toList rfl hnews hone (by unfold maxLen; omega) (by omega) (Nat.le_trans hB hb.size)
  refine ⟨v', w', hrun, ?_, (hb.mono hB).trans ((Below.refl B _).grown hgr (Nat.le_trans hB hb.size) (fun k hk => (World.ownsRow.lt ho k hk).1))⟩
  show w'.ownsRow B _ 8 v' (R ++ [x]).length (flat8 (R ++ [x]))
  rw [List.length_append, flat8_app]
  have e : flat8 [x] = x.cells.toList := by simp [flat8]
  rw [e]
  exact ho'
/-- the document's space -/
abbrev sv (p : Option Addr) (n c : Nat) (room now : Int) : Value := .agg #[.slice p n c, .int .i64 room, .int .i64 now]
end Go.Proofs.YtppgifaegnmciaaDoor

namespace Go.Proofs.YtppgifaegnmciaaDoor
open Go.RowKit

def delR (k : Nm) (R : List E8) : List E8 := R.filter fun x => !(x.key == k)
def tickR (t : Int) (R : List E8) : List E8 := R.filter fun x => x.ends == 0 || decide (t < x.ends)
theorem filter_take {f : E8 → Bool} {R : List E8} {i : Nat} (h : i < R.length) : (R.take (i + 1)).filter f = (R.take i).filter f ++ (if f R[i] = true then [R[i]] else []) := by
  rw [List.take_succ_eq_append_getElem h, List.filter_append]
  congr 1
  by_cases hf : f R[i] = true
  · rw [if_pos hf]; simp [hf]
  · rw [if_neg hf]; simp [hf]
theorem filter_le (f : E8 → Bool) (R : List E8) (i : Nat) : ((R.take i).filter f).length ≤ R.length := Nat.le_trans (List.length_filter_le _ _) (by simp; omega)
/-- the blocks of P, and new ones -/
abbrev Pn (P : Nat → Prop) (n : Nat) : Nat → Prop := fun i => P i ∨ n ≤ i
theorem rde_own {B : Nat} {P : Nat → Prop} {w W : World} {p q : Option Addr} {c n d : Nat} {R S : List E8} (h : Rde P w p c R) (hb : Below w.heap.size w W) (ho : OwnE B W (.slice q n d) S) (hB : w.heap.size ≤ B) (hS : ∀ x ∈ S, x ∈ R) : Rde (Pn P w.heap.size) W q d S :=
  ho.rde (fun k hk => .inr (by omega)) (fun x hx => (h.lies x (hS x hx)).keep (Keep.of_below hb) (fun _ hi => .inl hi))
theorem owne_set {W : World} {B : Nat} {v : Value} {l : List E8} (h : OwnE B W v l) (b k : Nat) (x : Value) (hb : b < B) : OwnE B (W.setCell ⟨b, k, none⟩ x) v l := by
  refine ⟨h.1, ?_⟩
  rcases h.2 with h | ⟨g, cap, cur, h1, h2, h3, h4⟩
  · exact .inl h
  · exact .inr ⟨g, cap, cur, h1, h2, (heap_setCell_other _ _ _ _ (by simp only; omega)).trans h3, h4⟩
end Go.Proofs.YtppgifaegnmciaaDoor
