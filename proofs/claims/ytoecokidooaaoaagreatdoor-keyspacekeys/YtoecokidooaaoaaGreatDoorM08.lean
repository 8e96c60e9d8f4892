/- EBase, RefDel. -/
import Derived.Test.YtoecokidooaaoaaGreatDoorM04
namespace Go.Proofs.YtoecokidooaaoaaGreatDoor
open Go.RowKit

/-- an entry, and where its value's rows lie -/
structure E8 where
  key : Nm
  m : Vl
  pp : Option Addr
  pc : Nat
  ip : Option Addr
  ic : Nat
  ends : Int
abbrev E8.cells (x : E8) : Array Value := #[txt x.key, .int .i64 x.m.kind, txt x.m.text, .slice x.pp x.m.pairs.length x.pc, .slice x.ip x.m.items.length x.ic, .int .i64 x.m.px, .int .i64 x.m.py, .int .i64 x.ends]
abbrev ev (x : E8) : Value := .agg x.cells
abbrev eob (x : E8) : Obj := .cells x.cells 47
/-- what it points to lies in blocks of P -/
structure Lies (P : Nat → Prop) (w : World) (x : E8) : Prop where
  vi : VI w x.m x.pp x.pc x.ip x.ic
  pairs : x.m.pairs ≠ [] → ∀ a, x.pp = some a → P a.block
  items : x.m.items ≠ [] → ∀ a, x.ip = some a → P a.block
theorem prs_keep {P : Nat → Prop} {w w' : World} {p : Option Addr} {l : List (Nm × Nm)} (h : Prs w p l) (hp : l ≠ [] → ∀ a, p = some a → P a.block) (k : Keep P w w') : Prs w' p l := fun hne => by
  obtain ⟨b, o, rfl, hc⟩ := h hne
  have hb := hp hne _ rfl
  exact ⟨b, o, rfl, fun i hi => ⟨cell_turn (hc i hi).1 (k.block b (block_lt_of_cell (hc i hi).1) hb), cell_turn (hc i hi).2 (k.block b (block_lt_of_cell (hc i hi).1) hb)⟩⟩
theorem strs_keep {P : Nat → Prop} {w w' : World} {p : Option Addr} {l : Row} (h : Strs w p l) (hp : l ≠ [] → ∀ a, p = some a → P a.block) (k : Keep P w w') : Strs w' p l := fun hne => by
  obtain ⟨b, o, rfl, hc⟩ := h hne
  have hb := hp hne _ rfl
  exact ⟨b, o, rfl, fun i hi => cell_turn (hc i hi) (k.block b (block_lt_of_cell (hc i hi)) hb)⟩
theorem Lies.keep {P Q : Nat → Prop} {w w' : World} {x : E8} (h : Lies P w x) (k : Keep P w w') (hq : ∀ i, P i → Q i) : Lies Q w' x :=
  ⟨⟨⟨prs_keep h.vi.pairs.prs h.pairs k, h.vi.pairs.nil, h.vi.pairs.cap⟩, ⟨strs_keep h.vi.items.strs h.items k, h.vi.items.nil, h.vi.items.cap⟩⟩, fun hne a ha => hq _ (h.pairs hne a ha), fun hne a ha => hq _ (h.items hne a ha)⟩
theorem Lies.below {P : Nat → Prop} {w w' : World} {x : E8} (h : Lies P w x) (k : Below w.heap.size w w') : Lies P w' x := h.keep (Keep.of_below k) (fun _ h => h)
theorem infoE (c : Array Value) (h : c.size = 8) : (Tryz.prog.info? 47).map (·.size) = some c.size := by
  rw [h]; kernel_rfl
theorem infoE8 : (Tryz.prog.info? 47).map (fun i => (i.zero, i.size, i.bytes)) = some (some (.agg #[.string ⟨#[]⟩, .int .i64 0, .string ⟨#[]⟩, .slice none 0 0, .slice none 0 0, .int .i64 0, .int .i64 0, .int .i64 0]), 8, 112) := by kernel_rfl
theorem ent_facts {w : World} {b : Nat} {c0 c1 c2 c3 c4 c5 c6 c7 : Value} (h : w.heap[b]? = some (.cells #[c0, c1, c2, c3, c4, c5, c6, c7] 47 (0, 0))) :
    w.cell? ⟨b, 0, none⟩ = some c0 ∧ w.cell? ⟨b, 1, none⟩ = some c1 ∧ w.cell? ⟨b, 2, none⟩ = some c2 ∧ w.cell? ⟨b, 3, none⟩ = some c3 ∧ w.cell? ⟨b, 4, none⟩ = some c4 ∧ w.cell? ⟨b, 5, none⟩ = some c5 ∧ w.cell? ⟨b, 6, none⟩ = some c6 ∧ w.cell? ⟨b, 7, none⟩ = some c7 :=
  ⟨cell_of_row w b 0 _ _ _ h, cell_of_row w b 1 _ _ _ h, cell_of_row w b 2 _ _ _ h, cell_of_row w b 3 _ _ _ h, cell_of_row w b 4 _ _ _ h, cell_of_row w b 5 _ _ _ h, cell_of_row w b 6 _ _ _ h, cell_of_row w b 7 _ _ _ h⟩
theorem ent_frozen {w : World} {b : Nat} {c0 c1 c2 c3 c4 c5 c6 c7 : Value} (h : w.heap[b]? = some (.cells #[c0, c1, c2, c3, c4, c5, c6, c7] 47 (0, 0))) :
    w.frozen? ⟨b, 0, none⟩ = false ∧ w.frozen? ⟨b, 1, none⟩ = false ∧ w.frozen? ⟨b, 2, none⟩ = false ∧ w.frozen? ⟨b, 3, none⟩ = false ∧ w.frozen? ⟨b, 4, none⟩ = false ∧ w.frozen? ⟨b, 5, none⟩ = false ∧ w.frozen? ⟨b, 6, none⟩ = false ∧ w.frozen? ⟨b, 7, none⟩ = false :=
  ⟨frozen_of_row w b 0 _ _ h, frozen_of_row w b 1 _ _ h, frozen_of_row w b 2 _ _ h, frozen_of_row w b 3 _ _ h, frozen_of_row w b 4 _ _ h, frozen_of_row w b 5 _ _ h, frozen_of_row w b 6 _ _ h, frozen_of_row w b 7 _ _ h⟩
theorem ent_new (w : World) (x : E8) : (w.alloc (eob x)).heap[w.heap.size]? = some (.cells x.cells 47 (0, 0)) := heap_alloc_new w _
theorem ret_etel {fn : Func} {p q : Tmp} (h : fn.results = #[.cell p 47, .tmp q]) {tmps : Array Value} {w : World} {b : Nat} {c0 c1 c2 c3 c4 c5 c6 c7 v : Value} (hp : tmps.getD p undef = .pointer (some ⟨b, 0, none⟩)) (hq : tmps.getD q undef = v) (hB : w.heap[b]? = some (.cells #[c0, c1, c2, c3, c4, c5, c6, c7] 47 (0, 0))) :
    (results fn tmps).run Tryz.prog w = .ok (.tuple #[.agg #[c0, c1, c2, c3, c4, c5, c6, c7], v]) w := by
  have hp' : tmps[p]?.getD undef = .pointer (some ⟨b, 0, none⟩) := by simpa using hp
  have hq' : tmps[q]?.getD undef = v := by simpa using hq
  simp [results, h, hp', hq', asAddr, run_loadVar_row w b 47 47 #[c0, c1, c2, c3, c4, c5, c6, c7] (0, 0) _ hB Tryz.underlying47 rfl (infoE _ rfl)]
/-- the cells of a row of entries -/
def flat8 (R : List E8) : List Value := R.flatMap fun x => x.cells.toList
theorem flat8_app (l m : List E8) : flat8 (l ++ m) = flat8 l ++ flat8 m := List.flatMap_append
theorem flat8_len (l : List E8) : (flat8 l).length = l.length * 8 := by
  induction l with
  | nil => rfl
  | cons x l ih => show (x.cells.toList ++ flat8 l).length = _; rw [List.length_append, ih]; simp; omega
theorem flat8_at : ∀ (l : List E8) (i : Nat) (h : i < l.length) (j : Nat), j < 8 → (flat8 l)[i * 8 + j]? = l[i].cells[j]?
  | x :: l, 0, _, j, hj => by
    show (x.cells.toList ++ flat8 l)[0 * 8 + j]? = _
    rw [List.getElem?_append_left (by simp; omega)]
    simp
  | x :: l, i + 1, h, j, hj => by
    have := flat8_at l i (by simpa using h) j hj
    show (x.cells.toList ++ flat8 l)[(i + 1) * 8 + j]? = _
    rw [List.getElem?_append_right (by simp; omega)]
    rw [show (i + 1) * 8 + j - x.cells.toList.length = i * 8 + j by simp; omega]
    simpa using this
/-- a row of entries of the call's own -/
abbrev OwnE (B : Nat) (w : World) (v : Value) (R : List E8) : Prop := w.ownsRow B 47 8 v R.length (flat8 R)
theorem OwnE.shape {B : Nat} {w : World} {v : Value} {R : List E8} (h : OwnE B w v R) : ∃ q d, v = .slice q R.length d := by
  rcases h.2 with ⟨rfl, h0⟩ | ⟨g, cap, cur, rfl, _⟩
  · exact ⟨none, 0, by rw [h0]⟩
  · exact ⟨_, cap, rfl⟩
/-- a row of entries that may be read; it lies in blocks of P, and what its entries point to, too -/
structure Rde (P : Nat → Prop) (w : World) (p : Option Addr) (c : Nat) (R : List E8) : Prop where
  at8 : R ≠ [] → ∃ b o, p = some ⟨b, o, none⟩ ∧ P b ∧ b < w.heap.size ∧ ∀ i (h : i < R.length) (j : Nat), j < 8 → w.cell? ⟨b, o + (i * 8 + j), none⟩ = R[i].cells[j]?
  nil : p = none → c = 0
  cap : R.length ≤ c
  lies : ∀ x ∈ R, Lies P w x
theorem Rde.keep {P Q : Nat → Prop} {w w' : World} {p : Option Addr} {c : Nat} {R : List E8} (h : Rde P w p c R) (k : Keep P w w') (hq : ∀ i, P i → Q i) : Rde Q w' p c R := by
  refine ⟨fun hne => ?_, h.nil, h.cap, fun x hx => (h.lies x hx).keep k hq⟩
  obtain ⟨b, o, rfl, hp, hl, hc⟩ := h.at8 hne
  refine ⟨b, o, rfl, hq _ hp, Nat.lt_of_lt_of_le hl k.size, fun i hi j hj => ?_⟩
  rw [World.cell?_of_block (w := w) (k.block b hl hp)]
  exact hc i hi j hj
theorem Rde.below {P : Nat → Prop} {w w' : World} {p : Option Addr} {c : Nat} {R : List E8} (h : Rde P w p c R) (k : Below w.heap.size w w') : Rde P w' p c R := h.keep (Keep.of_below k) (fun _ h => h)
theorem Rde.nilRow (P : Nat → Prop) (w : World) : Rde P w none 0 [] := ⟨fun h => absurd rfl h, fun _ => rfl, Nat.le_refl _, fun _ h => by cases h⟩
theorem OwnE.rde {B : Nat} {P : Nat → Prop} {w : World} {q : Option Addr} {n d : Nat} {R : List E8} (h : OwnE B w (.slice q n d) R) (hp : ∀ k, B ≤ k → P k) (hl : ∀ x ∈ R, Lies P w x) : Rde P w q d R := by
  rcases h.2 with ⟨h1, h0⟩ | ⟨g, cap, cur, h1, h2, h3, h4, _⟩
  · injection h1 with e1 e2 e3
    subst e1 e2 e3
    rw [List.length_eq_zero_iff.1 h0]
    exact Rde.nilRow P w
  · injection h1 with e1 e2 e3
    subst e1 e2 e3
    refine ⟨fun _ => ⟨g, 0, rfl, hp g h2, (Array.getElem?_eq_some_iff.1 h3).1, fun i hi j hj => ?_⟩, (fun h => by cases h), h4, hl⟩
    have e := flat8_at R i hi j hj
    have hs : j < R[i].cells.size := hj
    rw [Array.getElem?_eq_getElem hs] at e ⊢
    have c0 := World.ownsRow.cells h (g := g) rfl (i * 8 + j) _ e
    rwa [Go.WideShapes.add_plain] at c0
/-- an entry's cells, where it lies in a row -/
theorem Rde.facts {P : Nat → Prop} {w : World} {p : Option Addr} {c : Nat} {R : List E8} (h : Rde P w p c R) (i : Nat) (hi : i < R.length) : ∃ b o, p = some ⟨b, o, none⟩ ∧ P b ∧ b < w.heap.size ∧
    w.cell? ⟨b, o + i * 8, none⟩ = some (txt R[i].key) ∧ w.cell? ⟨b, o + i * 8 + 1, none⟩ = some (.int .i64 R[i].m.kind) ∧ w.cell? ⟨b, o + i * 8 + 2, none⟩ = some (txt R[i].m.text) ∧ w.cell? ⟨b, o + i * 8 + 3, none⟩ = some (.slice R[i].pp R[i].m.pairs.length R[i].pc) ∧ w.cell? ⟨b, o + i * 8 + 4, none⟩ = some (.slice R[i].ip R[i].m.items.length R[i].ic) ∧ w.cell? ⟨b, o + i * 8 + 5, none⟩ = some (.int .i64 R[i].m.px) ∧ w.cell? ⟨b, o + i * 8 + 6, none⟩ = some (.int .i64 R[i].m.py) ∧ w.cell? ⟨b, o + i * 8 + 7, none⟩ = some (.int .i64 R[i].ends) := by
  obtain ⟨b, o, e, hp, hl, hc⟩ := h.at8 (fun e => by rw [e] at hi; simp at hi)
  have g := fun j hj => hc i hi j hj
  simp only [← Nat.add_assoc] at g
  exact ⟨b, o, e, hp, hl, g 0 (by decide), g 1 (by decide), g 2 (by decide), g 3 (by decide), g 4 (by decide), g 5 (by decide), g 6 (by decide), g 7 (by decide)⟩
/-- an entry is put behind -/
theorem OwnE.push {B : Nat} {W : World} {v : Value} {R : List E8} (h : OwnE B W v R) (hB : B ≤ W.heap.size) (x : E8) (hl : R.length ≤ 1000000) :
    ∃ v' W', (Builtin.append_ #[24, 24] 24 #[v, .slice (some ⟨W.heap.size, 0, none⟩) 1 1]).run Tryz.prog (W.alloc (eob x)) = .ok v' W' ∧ OwnE B W' v' (R ++ [x]) ∧ Below B W W' := by
  obtain ⟨i0, hi, hz0, hz1, hz2⟩ := info_parts infoE8
  have hb := below_alloc W (eob x)
  have ho := owns_below h hb
  have hnews : ∀ j u, x.cells.toList[j]? = some u → (W.alloc (eob x)).cell? ((⟨W.heap.size, 0, none⟩ : Addr).add j) = some u := fun j u hj => by
    rw [Go.WideShapes.add_plain, cell_of_row _ _ _ _ _ _ (heap_alloc_new W _)]
    simpa using hj
  have hone : ∀ u ∈ x.cells.toList, u.oneCell' = true := by
    intro u hu
    simp only [List.mem_cons, List.not_mem_nil, or_false] at hu
    rcases hu with rfl | rfl | rfl | rfl | rfl | rfl | rfl | rfl <;> rfl
  obtain ⟨v', w', hrun, ho', hgr, _⟩ := run_append_own (P := Tryz.prog) (W.alloc (eob x)) B 24 24 47 i0 (.agg #[.string ⟨#[]⟩, .int .i64 0, .string ⟨#[]⟩, .slice none 0 0, .slice none 0 0, .int .i64 0, .int .i64 0, .int .i64 0]) 8 112 Tryz.underlying24 hi hz0 hz1 hz2 rfl (by decide) _ _ _ ho ⟨W.heap.size, 0, none⟩ 1 1 x.cells.toList rfl hnews hone (by unfold maxLen; omega) (by omega) (Nat.le_trans hB hb.size)
  refine ⟨v', w', hrun, ?_, (hb.mono hB).trans ((Below.refl B _).grown hgr (Nat.le_trans hB hb.size) (fun k hk => (World.ownsRow.lt ho k hk).1))⟩
  show w'.ownsRow B _ 8 v' (R ++ [x]).length (flat8 (R ++ [x]))
  rw [List.length_append, flat8_app]
  have e : flat8 [x] = x.cells.toList := by simp [flat8]
  rw [e]
  exact ho'
/-- the document's space -/
abbrev sv (p : Option Addr) (n c : Nat) (room now : Int) : Value := .agg #[.slice p n c, .int .i64 room, .int .i64 now]
abbrev sob (p : Option Addr) (n c : Nat) (room now : Int) : Obj := .cells #[.slice p n c, .int .i64 room, .int .i64 now] 26
theorem infoRS (c : Array Value) (h : c.size = 3) : (Tryz.prog.info? 26).map (·.size) = some c.size := by
  rw [h]; kernel_rfl
theorem sp_facts {w : World} {b : Nat} {x y z : Value} (h : w.heap[b]? = some (.cells #[x, y, z] 26 (0, 0))) :
    w.cell? ⟨b, 0, none⟩ = some x ∧ w.cell? ⟨b, 1, none⟩ = some y ∧ w.cell? ⟨b, 2, none⟩ = some z := ⟨cell_of_row w b 0 _ _ _ h, cell_of_row w b 1 _ _ _ h, cell_of_row w b 2 _ _ _ h⟩
theorem sp_frozen {w : World} {b : Nat} {x y z : Value} (h : w.heap[b]? = some (.cells #[x, y, z] 26 (0, 0))) :
    w.frozen? ⟨b, 0, none⟩ = false ∧ w.frozen? ⟨b, 1, none⟩ = false ∧ w.frozen? ⟨b, 2, none⟩ = false := ⟨frozen_of_row w b 0 _ _ h, frozen_of_row w b 1 _ _ h, frozen_of_row w b 2 _ _ h⟩
theorem ret_stel {fn : Func} {p q : Tmp} (h : fn.results = #[.cell p 26, .tmp q]) {tmps : Array Value} {w : World} {b : Nat} {x y z v : Value} (hp : tmps.getD p undef = .pointer (some ⟨b, 0, none⟩)) (hq : tmps.getD q undef = v) (hB : w.heap[b]? = some (.cells #[x, y, z] 26 (0, 0))) :
    (results fn tmps).run Tryz.prog w = .ok (.tuple #[.agg #[x, y, z], v]) w := by
  have hp' : tmps[p]?.getD undef = .pointer (some ⟨b, 0, none⟩) := by simpa using hp
  have hq' : tmps[q]?.getD undef = v := by simpa using hq
  simp [results, h, hp', hq', asAddr, run_loadVar_row w b 26 26 #[x, y, z] (0, 0) _ hB Tryz.underlying26 rfl (infoRS _ rfl)]

end Go.Proofs.YtoecokidooaaoaaGreatDoor

namespace Go.Proofs.YtoecokidooaaoaaGreatDoor
open Go.RowKit

def delR (k : Nm) (R : List E8) : List E8 := R.filter fun x => !(x.key == k)
def tickR (t : Int) (R : List E8) : List E8 := R.filter fun x => x.ends == 0 || decide (t < x.ends)
theorem filter_take {f : E8 → Bool} {R : List E8} {i : Nat} (h : i < R.length) : (R.take (i + 1)).filter f = (R.take i).filter f ++ (if f R[i] = true then [R[i]] else []) := by
  rw [List.take_succ_eq_append_getElem h, List.filter_append]
  congr 1
  by_cases hf : f R[i] = true
  · rw [if_pos hf]; simp [hf]
  · rw [if_neg hf]; simp [hf]
theorem filter_le (f : E8 → Bool) (R : List E8) (i : Nat) : ((R.take i).filter f).length ≤ R.length := Nat.le_trans (List.length_filter_le _ _) (by simp; omega)
/-- the blocks of P, and new ones -/
abbrev Pn (P : Nat → Prop) (n : Nat) : Nat → Prop := fun i => P i ∨ n ≤ i
theorem rde_own {B : Nat} {P : Nat → Prop} {w W : World} {p q : Option Addr} {c n d : Nat} {R S : List E8} (h : Rde P w p c R) (hb : Below w.heap.size w W) (ho : OwnE B W (.slice q n d) S) (hB : w.heap.size ≤ B) (hS : ∀ x ∈ S, x ∈ R) : Rde (Pn P w.heap.size) W q d S :=
  ho.rde (fun k hk => .inr (by omega)) (fun x hx => (h.lies x (hS x hx)).keep (Keep.of_below hb) (fun _ hi => .inl hi))
theorem set_three {B : Nat} {w W : World} {b : Nat} {x y z v0 v1 v2 : Value} (h : W.heap[b]? = some (.cells #[x, y, z] 26 (0, 0))) (hW : Below B w W) (hb : B ≤ b) :
    (((W.setCell ⟨b, 0, none⟩ v0).setCell ⟨b, 1, none⟩ v1).setCell ⟨b, 2, none⟩ v2).heap[b]? = some (.cells #[v0, v1, v2] 26 (0, 0)) ∧ Below B w (((W.setCell ⟨b, 0, none⟩ v0).setCell ⟨b, 1, none⟩ v1).setCell ⟨b, 2, none⟩ v2) :=
  ⟨heap_setCell_same _ b 2 _ _ _ (heap_setCell_same _ b 1 _ _ _ (heap_setCell_same _ b 0 _ _ _ h)), ((hW.setCell (p := ⟨b, 0, none⟩) hb _).setCell (p := ⟨b, 1, none⟩) hb _).setCell (p := ⟨b, 2, none⟩) hb _⟩
theorem owne_set {W : World} {B : Nat} {v : Value} {l : List E8} (h : OwnE B W v l) (b k : Nat) (x : Value) (hb : b < B) : OwnE B (W.setCell ⟨b, k, none⟩ x) v l := by
  refine ⟨h.1, ?_⟩
  rcases h.2 with h | ⟨g, cap, cur, h1, h2, h3, h4⟩
  · exact .inl h
  · exact .inr ⟨g, cap, cur, h1, h2, (heap_setCell_other _ _ _ _ (by simp only; omega)).trans h3, h4⟩
/-- what Delete and Tick end with -/
theorem del_end {w wr : World} {S : List E8} {q : Option Addr} {n d : Nat} {x y z a b : Value} (hZ : wr.heap[w.heap.size + 1]? = some (.cells #[x, y, z] 26 (0, 0))) (hW : Below w.heap.size w wr) (hO : OwnE (w.heap.size + 2) wr (.slice q n d) S) :
    ((((wr.setCell ⟨w.heap.size, 0, none⟩ (.slice q n d)).setCell ⟨w.heap.size + 1, 0, none⟩ (.slice q n d)).setCell ⟨w.heap.size + 1, 1, none⟩ a).setCell ⟨w.heap.size + 1, 2, none⟩ b).heap[w.heap.size + 1]? = some (.cells #[.slice q n d, a, b] 26 (0, 0)) ∧
      OwnE (w.heap.size + 2) ((((wr.setCell ⟨w.heap.size, 0, none⟩ (.slice q n d)).setCell ⟨w.heap.size + 1, 0, none⟩ (.slice q n d)).setCell ⟨w.heap.size + 1, 1, none⟩ a).setCell ⟨w.heap.size + 1, 2, none⟩ b) (.slice q n d) S ∧
      Below w.heap.size w ((((wr.setCell ⟨w.heap.size, 0, none⟩ (.slice q n d)).setCell ⟨w.heap.size + 1, 0, none⟩ (.slice q n d)).setCell ⟨w.heap.size + 1, 1, none⟩ a).setCell ⟨w.heap.size + 1, 2, none⟩ b) := by
  have h1 := (Below.heap_setCell wr ⟨w.heap.size, 0, none⟩ (.slice q n d) (w.heap.size + 1) (by simp)).trans hZ
  have h2 := hW.setCell (p := ⟨w.heap.size, 0, none⟩) (Nat.le_refl _) (.slice q n d)
  obtain ⟨k1, k2⟩ := set_three (v0 := .slice q n d) (v1 := a) (v2 := b) h1 h2 (by omega)
  exact ⟨k1, owne_set (owne_set (owne_set (owne_set hO _ _ _ (by omega)) _ _ _ (by omega)) _ _ _ (by omega)) _ _ _ (by omega), k2⟩
set_option maxHeartbeats 4000000 in
set_option maxRecDepth 100000 in
/-- ref Delete -/
theorem qdel_any (P : Nat → Prop) (pa : Option Addr) (c : Nat) (R : List E8) (room now : Int) (k : Nm) (w : World) (h : Rde P w pa c R) (hl : R.length ≤ 100000) :
    Calls Tryz.prog 39 #[sv pa R.length c room now, txt k] w fun e w' => ∃ q d, e = .returned (.tuple #[sv q (delR k R).length d room now, .bool (decide ((delR k R).length < R.length))]) ∧ Hid (Rde (Pn P w.heap.size) w' q d (delR k R) ∧ Below w.heap.size w w') := by
  have H := hid h
  have hlz : (R.length : Int) ≤ 100000 := by omega
  have HA := hid (al_two w (sob pa R.length c room now) (sob none 0 0 0 0))
  obtain ⟨s0, s1, s2⟩ := sp_facts HA.out.2.1
  obtain ⟨z0, z1, z2⟩ := sp_facts HA.out.2.2.1
  clear h
  go_enter Tryz.func39, Tryz.ntmps39
  go_wp2_with fail
  go_loopw [6, 7] (fun v6 v7 W => ∃ (i : Nat) (q : Option Addr) (n d : Nat), v7 = .int .i64 i ∧ v6 = .slice q n d ∧ i ≤ R.length ∧ Hid (OwnE (w.heap.size + 2) W (.slice q n d) (delR k (R.take i))) ∧ Hid (Below (w.heap.size + 2) ((w.alloc (sob pa R.length c room now)).alloc (sob none 0 0 0 0)) W)) (fun _ v7 _ => R.length - (intOf v7).toNat)
  case atStart => exact ⟨0, none, 0, 0, rfl, rfl, Nat.zero_le _, World.ownsRow_nil _ _ _ _, Below.refl _ _⟩
  case round =>
    obtain ⟨i, q, n, d, rfl, rfl, hi, HO, HB⟩ := hrel
    have HX := hid ((HB.out.block w.heap.size (by omega)).trans HA.out.2.1)
    have HZ := hid ((HB.out.block (w.heap.size + 1) (by omega)).trans HA.out.2.2.1)
    have HW := hid (HA.out.1.trans (HB.out.mono (by omega)))
    clear s0 s1 s2 z0 z1 z2
    obtain ⟨s0, s1, s2⟩ := sp_facts HX.out
    obtain ⟨f0, f1, f2⟩ := sp_frozen HX.out
    obtain ⟨z0, z1, z2⟩ := sp_facts HZ.out
    obtain ⟨y0, y1, y2⟩ := sp_frozen HZ.out
    have hsz := HB.out.size
    rw [HA.out.2.2.2] at hsz
    by_cases hlt : i < R.length
    · have hiz : (i : Int) < (R.length : Int) := by omega
      obtain ⟨b, off, hp, hPb, hbl, x0, x1, x2, x3, x4, x5, x6, x7⟩ := (H.out.below HW.out).facts i hlt
      have HS : Hid (delR k (R.take (i + 1)) = _) := filter_take hlt
      have HL := hid (filter_le (fun x => !(x.key == k)) R i)
      generalize R[i] = x at *
      subst hp
      by_cases hk : x.key = k
      · have hkb : (x.key != k) = false := by rw [hk]; simp
        have hkb2 : (x.key == k) = true := beq_iff_eq.2 hk
        have HS2 : Hid (delR k (R.take (i + 1)) = delR k (R.take i)) := by
          rw [Hid, HS.out, if_neg (by simp [hkb2]), List.append_nil]; rfl
        clear hk
        go_wp2_with fail
        exact ⟨⟨i + 1, q, n, d, by go_num, rfl, by omega, by rw [HS2.out]; exact HO.out, HB.out⟩, by simp [intOf]; omega⟩
      · have hkb : (x.key != k) = true := bne_iff_ne.2 hk
        have hkb2 : (x.key == k) = false := beq_eq_false_iff_ne.2 hk
        have HS2 : Hid (delR k (R.take (i + 1)) = delR k (R.take i) ++ [x]) := by
          rw [Hid, HS.out, if_pos (by simp [hkb2])]; rfl
        obtain ⟨v2, W2, hrun, ho2, hb2⟩ := OwnE.push (R := delR k (R.take i)) HO.out hsz x (by have := HL.out; show (List.filter _ _).length ≤ _; omega)
        rw [← HS2.out] at ho2
        obtain ⟨q2, d2, rfl⟩ := ho2.shape
        obtain ⟨N2, hN2⟩ : ∃ N2, N2 = (delR k (R.take (i + 1))).length := ⟨_, rfl⟩
        have ho3 : OwnE (w.heap.size + 2) W2 (.slice q2 N2 d2) (delR k (R.take (i + 1))) := by rw [hN2]; exact ho2
        rw [← hN2] at hrun
        have HR2 := hid hrun
        have HO2 := hid ho3
        have HB2 := hid (HB.out.trans hb2)
        clear hrun ho2 ho3 hb2 hN2 hk
        go_wp2_with (refine wpList_append_runs rfl _ _ 24 24 rfl _ _ _ _ rfl rfl HR2.out (Hid.out ?_))
        refine hid ?_
        go_wp2_with fail
        exact ⟨⟨i + 1, q2, N2, d2, by go_num, rfl, by omega, HO2.out, HB2.out⟩, by simp [intOf]; omega⟩
    · have hge : (R.length : Int) ≤ (i : Int) := by omega
      have ho : OwnE (w.heap.size + 2) wr (.slice q n d) (delR k R) := by have := HO.out; rwa [List.take_of_length_le (by omega)] at this
      obtain ⟨q', d', hsh⟩ := ho.shape
      injection hsh with e1 e2 e3
      have HO2 := hid ho
      have HN := hid e2
      clear ho e1 e2 e3
      go_wp2_with fail
      have e := HN.out
      subst e
      obtain ⟨k1, k2, k3⟩ := del_end HZ.out HW.out HO2.out
      exact bodyPost_ret (v := .tuple #[sv q (delR k R).length d room now, .bool (decide ((delR k R).length < R.length))]) (ret_stel rfl rfl rfl k1) rfl ⟨q, d, rfl, rde_own H.out k3 k2 (by omega) (fun x hx => (List.mem_filter.1 hx).1), k3⟩
set_option maxHeartbeats 8000000 in
set_option maxRecDepth 100000 in
theorem qtick_at (P : Nat → Prop) (pa : Option Addr) (c : Nat) (R : List E8) (room now t T : Int) (w : World) (h : Rde P w pa c R) (hl : R.length ≤ 100000) (hT : (1099511627776 < t ∧ ((now < 1099511627776 ∧ T = 1099511627776) ∨ (1099511627776 ≤ now ∧ T = now))) ∨ (t ≤ 1099511627776 ∧ ((now < t ∧ T = t) ∨ (t ≤ now ∧ T = now)))) :
    Calls Tryz.prog 16 #[sv pa R.length c room now, .int .i64 t] w fun e w' => ∃ q d, e = .returned (.tuple #[sv q (tickR T R).length d room T, .int .i64 ((R.length : Int) - ((tickR T R).length : Int))]) ∧ Hid (Rde (Pn P w.heap.size) w' q d (tickR T R) ∧ Below w.heap.size w w') := by
  have H := hid h
  have hlz : (R.length : Int) ≤ 100000 := by omega
  have HA := hid (al_two w (sob pa R.length c room T) (sob none 0 0 0 0))
  have HFl := hid (List.length_filter_le (fun x => x.ends == 0 || decide (T < x.ends)) R)
  have HA0 := hid (al_two w (sob pa R.length c room now) (sob none 0 0 0 0))
  obtain ⟨s0, s1, s2⟩ := sp_facts HA0.out.2.1
  obtain ⟨z0, z1, z2⟩ := sp_facts HA0.out.2.2.1
  clear h
  rcases hT with ⟨hc, ⟨hd, rfl⟩ | ⟨hd, rfl⟩⟩ | ⟨hc, ⟨hd, rfl⟩ | ⟨hd, rfl⟩⟩
  · go_enter Tryz.func16, Tryz.ntmps16
    go_wp2_with fail
    go_loopw [6, 7] (fun v6 v7 W => ∃ (i : Nat) (q : Option Addr) (n d : Nat), v7 = .int .i64 i ∧ v6 = .slice q n d ∧ i ≤ R.length ∧ Hid (OwnE (w.heap.size + 2) W (.slice q n d) (tickR 1099511627776 (R.take i))) ∧ Hid (Below (w.heap.size + 2) ((w.alloc (sob pa R.length c room 1099511627776)).alloc (sob none 0 0 0 0)) W)) (fun _ v7 _ => R.length - (intOf v7).toNat)
    case atStart => exact ⟨0, none, 0, 0, rfl, rfl, Nat.zero_le _, World.ownsRow_nil _ _ _ _, Below.refl _ _⟩
    case round =>
      obtain ⟨i, q, n, d, rfl, rfl, hi, HO, HB⟩ := hrel
      have HX := hid ((HB.out.block w.heap.size (by omega)).trans HA.out.2.1)
      have HZ := hid ((HB.out.block (w.heap.size + 1) (by omega)).trans HA.out.2.2.1)
      have HW := hid (HA.out.1.trans (HB.out.mono (by omega)))
      clear s0 s1 s2 z0 z1 z2
      obtain ⟨s0, s1, s2⟩ := sp_facts HX.out
      obtain ⟨f0, f1, f2⟩ := sp_frozen HX.out
      obtain ⟨z0, z1, z2⟩ := sp_facts HZ.out
      obtain ⟨y0, y1, y2⟩ := sp_frozen HZ.out
      have hsz := HB.out.size
      rw [HA.out.2.2.2] at hsz
      by_cases hlt : i < R.length
      · have hiz : (i : Int) < (R.length : Int) := by omega
        obtain ⟨b, off, hp, hPb, hbl, x0, x1, x2, x3, x4, x5, x6, x7⟩ := (H.out.below HW.out).facts i hlt
        have HS : Hid (tickR 1099511627776 (R.take (i + 1)) = _) := filter_take hlt
        have HL := hid (filter_le (fun x => x.ends == 0 || decide (1099511627776 < x.ends)) R i)
        generalize R[i] = x at *
        have HBd := hid (fun n => (show Below (w.heap.size + 2) ((w.alloc (sob pa R.length c room 1099511627776)).alloc (sob none 0 0 0 0)) (wr.drewN n) from ⟨HB.out.os, HB.out.tape, HB.out.output, HB.out.size, HB.out.block⟩))
        subst hp
        by_cases hk : x.ends = 0 ∨ 1099511627776 < x.ends
        · have HS2 : Hid (tickR 1099511627776 (R.take (i + 1)) = tickR 1099511627776 (R.take i) ++ [x]) := by
            rw [Hid, HS.out, if_pos (by rcases hk with hk | hk <;> simp [hk])]; rfl
          have he : (x.ends == 0) = true ∨ ((x.ends == 0) = false ∧ 1099511627776 < x.ends) := by
            by_cases h0 : x.ends = 0
            · exact .inl (beq_iff_eq.2 h0)
            · exact .inr ⟨beq_eq_false_iff_ne.2 h0, by rcases hk with hk | hk; exact absurd hk h0; exact hk⟩
          clear hk
          rcases he with e0 | ⟨e0, e1⟩
          all_goals
            go_wp2_with fail
            go_quiet (fail)
            have ho1 : OwnE (w.heap.size + 2) (wr.drewN nq) (.slice q n d) (tickR 1099511627776 (R.take i)) := HO.out
            obtain ⟨v2, W2, hrun, ho2, hb2⟩ := ho1.push hsz x (by have := HL.out; show (List.filter _ _).length ≤ _; omega)
            rw [← HS2.out] at ho2
            rw [show (wr.drewN nq).heap.size = wr.heap.size from rfl] at hrun
            obtain ⟨q2, d2, rfl⟩ := ho2.shape
            obtain ⟨N2, hN2⟩ : ∃ N2, N2 = (tickR 1099511627776 (R.take (i + 1))).length := ⟨_, rfl⟩
            have ho3 : OwnE (w.heap.size + 2) W2 (.slice q2 N2 d2) (tickR 1099511627776 (R.take (i + 1))) := by rw [hN2]; exact ho2
            rw [← hN2] at hrun
            have HR2 := hid hrun
            have HO2 := hid ho3
            have HB2 := hid ((HBd.out nq).trans hb2)
            clear hrun ho2 ho3 hb2 hN2 ho1
            go_wp2_with (refine wpList_append_runs rfl _ _ 24 24 rfl _ _ _ _ rfl rfl HR2.out (Hid.out ?_))
            refine hid ?_
            go_wp2_with fail
            exact ⟨⟨i + 1, q2, N2, d2, by go_num, rfl, by omega, HO2.out, HB2.out⟩, by simp [intOf]; omega⟩
        · have HS2 : Hid (tickR 1099511627776 (R.take (i + 1)) = tickR 1099511627776 (R.take i)) := by
            rw [Hid, HS.out, if_neg (by intro h; apply hk; simpa using h), List.append_nil]; rfl
          have e0 : (x.ends == 0) = false := beq_eq_false_iff_ne.2 fun h => hk (.inl h)
          have e1 : x.ends ≤ 1099511627776 := by
            by_cases h : 1099511627776 < x.ends
            · exact absurd (.inr h) hk
            · omega
          clear hk
          go_wp2_with fail
          go_quiet (fail)
          go_wp2_with fail
          exact ⟨⟨i + 1, q, n, d, by go_num, rfl, by omega, by rw [HS2.out]; exact HO.out, HBd.out _⟩, by simp [intOf]; omega⟩
      · have hge : (R.length : Int) ≤ (i : Int) := by omega
        have ho : OwnE (w.heap.size + 2) wr (.slice q n d) (tickR 1099511627776 R) := by have := HO.out; rwa [List.take_of_length_le (by omega)] at this
        obtain ⟨q', d', hsh⟩ := ho.shape
        injection hsh with e1 e2 e3
        have HO2 := hid ho
        have HN := hid e2
        have hnz : (n : Int) ≤ (R.length : Int) := by have := HFl.out; rw [e2]; show ((List.filter _ _).length : Int) ≤ _; omega
        clear ho e1 e2 e3
        go_wp2_with fail
        have e := HN.out
        subst e
        obtain ⟨k1, k2, k3⟩ := del_end HZ.out HW.out HO2.out
        exact bodyPost_ret (v := .tuple #[sv q (tickR 1099511627776 R).length d room 1099511627776, .int .i64 ((R.length : Int) - ((tickR 1099511627776 R).length : Int))]) (ret_stel rfl rfl rfl k1) rfl ⟨q, d, rfl, rde_own H.out k3 k2 (by omega) (fun x hx => (List.mem_filter.1 hx).1), k3⟩
  · go_enter Tryz.func16, Tryz.ntmps16
    go_wp2_with fail
    go_loopw [6, 7] (fun v6 v7 W => ∃ (i : Nat) (q : Option Addr) (n d : Nat), v7 = .int .i64 i ∧ v6 = .slice q n d ∧ i ≤ R.length ∧ Hid (OwnE (w.heap.size + 2) W (.slice q n d) (tickR T (R.take i))) ∧ Hid (Below (w.heap.size + 2) ((w.alloc (sob pa R.length c room T)).alloc (sob none 0 0 0 0)) W)) (fun _ v7 _ => R.length - (intOf v7).toNat)
    case atStart => exact ⟨0, none, 0, 0, rfl, rfl, Nat.zero_le _, World.ownsRow_nil _ _ _ _, Below.refl _ _⟩
    case round =>
      obtain ⟨i, q, n, d, rfl, rfl, hi, HO, HB⟩ := hrel
      have HX := hid ((HB.out.block w.heap.size (by omega)).trans HA.out.2.1)
      have HZ := hid ((HB.out.block (w.heap.size + 1) (by omega)).trans HA.out.2.2.1)
      have HW := hid (HA.out.1.trans (HB.out.mono (by omega)))
      clear s0 s1 s2 z0 z1 z2
      obtain ⟨s0, s1, s2⟩ := sp_facts HX.out
      obtain ⟨f0, f1, f2⟩ := sp_frozen HX.out
      obtain ⟨z0, z1, z2⟩ := sp_facts HZ.out
      obtain ⟨y0, y1, y2⟩ := sp_frozen HZ.out
      have hsz := HB.out.size
      rw [HA.out.2.2.2] at hsz
      by_cases hlt : i < R.length
      · have hiz : (i : Int) < (R.length : Int) := by omega
        obtain ⟨b, off, hp, hPb, hbl, x0, x1, x2, x3, x4, x5, x6, x7⟩ := (H.out.below HW.out).facts i hlt
        have HS : Hid (tickR T (R.take (i + 1)) = _) := filter_take hlt
        have HL := hid (filter_le (fun x => x.ends == 0 || decide (T < x.ends)) R i)
        generalize R[i] = x at *
        have HBd := hid (fun n => (show Below (w.heap.size + 2) ((w.alloc (sob pa R.length c room T)).alloc (sob none 0 0 0 0)) (wr.drewN n) from ⟨HB.out.os, HB.out.tape, HB.out.output, HB.out.size, HB.out.block⟩))
        subst hp
        by_cases hk : x.ends = 0 ∨ T < x.ends
        · have HS2 : Hid (tickR T (R.take (i + 1)) = tickR T (R.take i) ++ [x]) := by
            rw [Hid, HS.out, if_pos (by rcases hk with hk | hk <;> simp [hk])]; rfl
          have he : (x.ends == 0) = true ∨ ((x.ends == 0) = false ∧ T < x.ends) := by
            by_cases h0 : x.ends = 0
            · exact .inl (beq_iff_eq.2 h0)
            · exact .inr ⟨beq_eq_false_iff_ne.2 h0, by rcases hk with hk | hk; exact absurd hk h0; exact hk⟩
          clear hk
          rcases he with e0 | ⟨e0, e1⟩
          all_goals
            go_wp2_with fail
            go_quiet (fail)
            have ho1 : OwnE (w.heap.size + 2) (wr.drewN nq) (.slice q n d) (tickR T (R.take i)) := HO.out
            obtain ⟨v2, W2, hrun, ho2, hb2⟩ := ho1.push hsz x (by have := HL.out; show (List.filter _ _).length ≤ _; omega)
            rw [← HS2.out] at ho2
            rw [show (wr.drewN nq).heap.size = wr.heap.size from rfl] at hrun
            obtain ⟨q2, d2, rfl⟩ := ho2.shape
            obtain ⟨N2, hN2⟩ : ∃ N2, N2 = (tickR T (R.take (i + 1))).length := ⟨_, rfl⟩
            have ho3 : OwnE (w.heap.size + 2) W2 (.slice q2 N2 d2) (tickR T (R.take (i + 1))) := by rw [hN2]; exact ho2
            rw [← hN2] at hrun
            have HR2 := hid hrun
            have HO2 := hid ho3
            have HB2 := hid ((HBd.out nq).trans hb2)
            clear hrun ho2 ho3 hb2 hN2 ho1
            go_wp2_with (refine wpList_append_runs rfl _ _ 24 24 rfl _ _ _ _ rfl rfl HR2.out (Hid.out ?_))
            refine hid ?_
            go_wp2_with fail
            exact ⟨⟨i + 1, q2, N2, d2, by go_num, rfl, by omega, HO2.out, HB2.out⟩, by simp [intOf]; omega⟩
        · have HS2 : Hid (tickR T (R.take (i + 1)) = tickR T (R.take i)) := by
            rw [Hid, HS.out, if_neg (by intro h; apply hk; simpa using h), List.append_nil]; rfl
          have e0 : (x.ends == 0) = false := beq_eq_false_iff_ne.2 fun h => hk (.inl h)
          have e1 : x.ends ≤ T := by
            by_cases h : T < x.ends
            · exact absurd (.inr h) hk
            · omega
          clear hk
          go_wp2_with fail
          go_quiet (fail)
          go_wp2_with fail
          exact ⟨⟨i + 1, q, n, d, by go_num, rfl, by omega, by rw [HS2.out]; exact HO.out, HBd.out _⟩, by simp [intOf]; omega⟩
      · have hge : (R.length : Int) ≤ (i : Int) := by omega
        have ho : OwnE (w.heap.size + 2) wr (.slice q n d) (tickR T R) := by have := HO.out; rwa [List.take_of_length_le (by omega)] at this
        obtain ⟨q', d', hsh⟩ := ho.shape
        injection hsh with e1 e2 e3
        have HO2 := hid ho
        have HN := hid e2
        have hnz : (n : Int) ≤ (R.length : Int) := by have := HFl.out; rw [e2]; show ((List.filter _ _).length : Int) ≤ _; omega
        clear ho e1 e2 e3
        go_wp2_with fail
        have e := HN.out
        subst e
        obtain ⟨k1, k2, k3⟩ := del_end HZ.out HW.out HO2.out
        exact bodyPost_ret (v := .tuple #[sv q (tickR T R).length d room T, .int .i64 ((R.length : Int) - ((tickR T R).length : Int))]) (ret_stel rfl rfl rfl k1) rfl ⟨q, d, rfl, rde_own H.out k3 k2 (by omega) (fun x hx => (List.mem_filter.1 hx).1), k3⟩
  · go_enter Tryz.func16, Tryz.ntmps16
    go_wp2_with fail
    go_loopw [6, 7] (fun v6 v7 W => ∃ (i : Nat) (q : Option Addr) (n d : Nat), v7 = .int .i64 i ∧ v6 = .slice q n d ∧ i ≤ R.length ∧ Hid (OwnE (w.heap.size + 2) W (.slice q n d) (tickR T (R.take i))) ∧ Hid (Below (w.heap.size + 2) ((w.alloc (sob pa R.length c room T)).alloc (sob none 0 0 0 0)) W)) (fun _ v7 _ => R.length - (intOf v7).toNat)
    case atStart => exact ⟨0, none, 0, 0, rfl, rfl, Nat.zero_le _, World.ownsRow_nil _ _ _ _, Below.refl _ _⟩
    case round =>
      obtain ⟨i, q, n, d, rfl, rfl, hi, HO, HB⟩ := hrel
      have HX := hid ((HB.out.block w.heap.size (by omega)).trans HA.out.2.1)
      have HZ := hid ((HB.out.block (w.heap.size + 1) (by omega)).trans HA.out.2.2.1)
      have HW := hid (HA.out.1.trans (HB.out.mono (by omega)))
      clear s0 s1 s2 z0 z1 z2
      obtain ⟨s0, s1, s2⟩ := sp_facts HX.out
      obtain ⟨f0, f1, f2⟩ := sp_frozen HX.out
      obtain ⟨z0, z1, z2⟩ := sp_facts HZ.out
      obtain ⟨y0, y1, y2⟩ := sp_frozen HZ.out
      have hsz := HB.out.size
      rw [HA.out.2.2.2] at hsz
      by_cases hlt : i < R.length
      · have hiz : (i : Int) < (R.length : Int) := by omega
        obtain ⟨b, off, hp, hPb, hbl, x0, x1, x2, x3, x4, x5, x6, x7⟩ := (H.out.below HW.out).facts i hlt
        have HS : Hid (tickR T (R.take (i + 1)) = _) := filter_take hlt
        have HL := hid (filter_le (fun x => x.ends == 0 || decide (T < x.ends)) R i)
        generalize R[i] = x at *
        have HBd := hid (fun n => (show Below (w.heap.size + 2) ((w.alloc (sob pa R.length c room T)).alloc (sob none 0 0 0 0)) (wr.drewN n) from ⟨HB.out.os, HB.out.tape, HB.out.output, HB.out.size, HB.out.block⟩))
        subst hp
        by_cases hk : x.ends = 0 ∨ T < x.ends
        · have HS2 : Hid (tickR T (R.take (i + 1)) = tickR T (R.take i) ++ [x]) := by
            rw [Hid, HS.out, if_pos (by rcases hk with hk | hk <;> simp [hk])]; rfl
          have he : (x.ends == 0) = true ∨ ((x.ends == 0) = false ∧ T < x.ends) := by
            by_cases h0 : x.ends = 0
            · exact .inl (beq_iff_eq.2 h0)
            · exact .inr ⟨beq_eq_false_iff_ne.2 h0, by rcases hk with hk | hk; exact absurd hk h0; exact hk⟩
          clear hk
          rcases he with e0 | ⟨e0, e1⟩
          all_goals
            go_wp2_with fail
            go_quiet (fail)
            have ho1 : OwnE (w.heap.size + 2) (wr.drewN nq) (.slice q n d) (tickR T (R.take i)) := HO.out
            obtain ⟨v2, W2, hrun, ho2, hb2⟩ := ho1.push hsz x (by have := HL.out; show (List.filter _ _).length ≤ _; omega)
            rw [← HS2.out] at ho2
            rw [show (wr.drewN nq).heap.size = wr.heap.size from rfl] at hrun
            obtain ⟨q2, d2, rfl⟩ := ho2.shape
            obtain ⟨N2, hN2⟩ : ∃ N2, N2 = (tickR T (R.take (i + 1))).length := ⟨_, rfl⟩
            have ho3 : OwnE (w.heap.size + 2) W2 (.slice q2 N2 d2) (tickR T (R.take (i + 1))) := by rw [hN2]; exact ho2
            rw [← hN2] at hrun
            have HR2 := hid hrun
            have HO2 := hid ho3
            have HB2 := hid ((HBd.out nq).trans hb2)
            clear hrun ho2 ho3 hb2 hN2 ho1
            go_wp2_with (refine wpList_append_runs rfl _ _ 24 24 rfl _ _ _ _ rfl rfl HR2.out (Hid.out ?_))
            refine hid ?_
            go_wp2_with fail
            exact ⟨⟨i + 1, q2, N2, d2, by go_num, rfl, by omega, HO2.out, HB2.out⟩, by simp [intOf]; omega⟩
        · have HS2 : Hid (tickR T (R.take (i + 1)) = tickR T (R.take i)) := by
            rw [Hid, HS.out, if_neg (by intro h; apply hk; simpa using h), List.append_nil]; rfl
          have e0 : (x.ends == 0) = false := beq_eq_false_iff_ne.2 fun h => hk (.inl h)
          have e1 : x.ends ≤ T := by
            by_cases h : T < x.ends
            · exact absurd (.inr h) hk
            · omega
          clear hk
          go_wp2_with fail
          go_quiet (fail)
          go_wp2_with fail
          exact ⟨⟨i + 1, q, n, d, by go_num, rfl, by omega, by rw [HS2.out]; exact HO.out, HBd.out _⟩, by simp [intOf]; omega⟩
      · have hge : (R.length : Int) ≤ (i : Int) := by omega
        have ho : OwnE (w.heap.size + 2) wr (.slice q n d) (tickR T R) := by have := HO.out; rwa [List.take_of_length_le (by omega)] at this
        obtain ⟨q', d', hsh⟩ := ho.shape
        injection hsh with e1 e2 e3
        have HO2 := hid ho
        have HN := hid e2
        have hnz : (n : Int) ≤ (R.length : Int) := by have := HFl.out; rw [e2]; show ((List.filter _ _).length : Int) ≤ _; omega
        clear ho e1 e2 e3
        go_wp2_with fail
        have e := HN.out
        subst e
        obtain ⟨k1, k2, k3⟩ := del_end HZ.out HW.out HO2.out
        exact bodyPost_ret (v := .tuple #[sv q (tickR T R).length d room T, .int .i64 ((R.length : Int) - ((tickR T R).length : Int))]) (ret_stel rfl rfl rfl k1) rfl ⟨q, d, rfl, rde_own H.out k3 k2 (by omega) (fun x hx => (List.mem_filter.1 hx).1), k3⟩
  · go_enter Tryz.func16, Tryz.ntmps16
    go_wp2_with fail
    go_loopw [6, 7] (fun v6 v7 W => ∃ (i : Nat) (q : Option Addr) (n d : Nat), v7 = .int .i64 i ∧ v6 = .slice q n d ∧ i ≤ R.length ∧ Hid (OwnE (w.heap.size + 2) W (.slice q n d) (tickR T (R.take i))) ∧ Hid (Below (w.heap.size + 2) ((w.alloc (sob pa R.length c room T)).alloc (sob none 0 0 0 0)) W)) (fun _ v7 _ => R.length - (intOf v7).toNat)
    case atStart => exact ⟨0, none, 0, 0, rfl, rfl, Nat.zero_le _, World.ownsRow_nil _ _ _ _, Below.refl _ _⟩
    case round =>
      obtain ⟨i, q, n, d, rfl, rfl, hi, HO, HB⟩ := hrel
      have HX := hid ((HB.out.block w.heap.size (by omega)).trans HA.out.2.1)
      have HZ := hid ((HB.out.block (w.heap.size + 1) (by omega)).trans HA.out.2.2.1)
      have HW := hid (HA.out.1.trans (HB.out.mono (by omega)))
      clear s0 s1 s2 z0 z1 z2
      obtain ⟨s0, s1, s2⟩ := sp_facts HX.out
      obtain ⟨f0, f1, f2⟩ := sp_frozen HX.out
      obtain ⟨z0, z1, z2⟩ := sp_facts HZ.out
      obtain ⟨y0, y1, y2⟩ := sp_frozen HZ.out
      have hsz := HB.out.size
      rw [HA.out.2.2.2] at hsz
      by_cases hlt : i < R.length
      · have hiz : (i : Int) < (R.length : Int) := by omega
        obtain ⟨b, off, hp, hPb, hbl, x0, x1, x2, x3, x4, x5, x6, x7⟩ := (H.out.below HW.out).facts i hlt
        have HS : Hid (tickR T (R.take (i + 1)) = _) := filter_take hlt
        have HL := hid (filter_le (fun x => x.ends == 0 || decide (T < x.ends)) R i)
        generalize R[i] = x at *
        have HBd := hid (fun n => (show Below (w.heap.size + 2) ((w.alloc (sob pa R.length c room T)).alloc (sob none 0 0 0 0)) (wr.drewN n) from ⟨HB.out.os, HB.out.tape, HB.out.output, HB.out.size, HB.out.block⟩))
        subst hp
        by_cases hk : x.ends = 0 ∨ T < x.ends
        · have HS2 : Hid (tickR T (R.take (i + 1)) = tickR T (R.take i) ++ [x]) := by
            rw [Hid, HS.out, if_pos (by rcases hk with hk | hk <;> simp [hk])]; rfl
          have he : (x.ends == 0) = true ∨ ((x.ends == 0) = false ∧ T < x.ends) := by
            by_cases h0 : x.ends = 0
            · exact .inl (beq_iff_eq.2 h0)
            · exact .inr ⟨beq_eq_false_iff_ne.2 h0, by rcases hk with hk | hk; exact absurd hk h0; exact hk⟩
          clear hk
          rcases he with e0 | ⟨e0, e1⟩
          all_goals
            go_wp2_with fail
            go_quiet (fail)
            have ho1 : OwnE (w.heap.size + 2) (wr.drewN nq) (.slice q n d) (tickR T (R.take i)) := HO.out
            obtain ⟨v2, W2, hrun, ho2, hb2⟩ := ho1.push hsz x (by have := HL.out; show (List.filter _ _).length ≤ _; omega)
            rw [← HS2.out] at ho2
            rw [show (wr.drewN nq).heap.size = wr.heap.size from rfl] at hrun
            obtain ⟨q2, d2, rfl⟩ := ho2.shape
            obtain ⟨N2, hN2⟩ : ∃ N2, N2 = (tickR T (R.take (i + 1))).length := ⟨_, rfl⟩
            have ho3 : OwnE (w.heap.size + 2) W2 (.slice q2 N2 d2) (tickR T (R.take (i + 1))) := by rw [hN2]; exact ho2
            rw [← hN2] at hrun
            have HR2 := hid hrun
            have HO2 := hid ho3
            have HB2 := hid ((HBd.out nq).trans hb2)
            clear hrun ho2 ho3 hb2 hN2 ho1
            go_wp2_with (refine wpList_append_runs rfl _ _ 24 24 rfl _ _ _ _ rfl rfl HR2.out (Hid.out ?_))
            refine hid ?_
            go_wp2_with fail
            exact ⟨⟨i + 1, q2, N2, d2, by go_num, rfl, by omega, HO2.out, HB2.out⟩, by simp [intOf]; omega⟩
        · have HS2 : Hid (tickR T (R.take (i + 1)) = tickR T (R.take i)) := by
            rw [Hid, HS.out, if_neg (by intro h; apply hk; simpa using h), List.append_nil]; rfl
          have e0 : (x.ends == 0) = false := beq_eq_false_iff_ne.2 fun h => hk (.inl h)
          have e1 : x.ends ≤ T := by
            by_cases h : T < x.ends
            · exact absurd (.inr h) hk
            · omega
          clear hk
          go_wp2_with fail
          go_quiet (fail)
          go_wp2_with fail
          exact ⟨⟨i + 1, q, n, d, by go_num, rfl, by omega, by rw [HS2.out]; exact HO.out, HBd.out _⟩, by simp [intOf]; omega⟩
      · have hge : (R.length : Int) ≤ (i : Int) := by omega
        have ho : OwnE (w.heap.size + 2) wr (.slice q n d) (tickR T R) := by have := HO.out; rwa [List.take_of_length_le (by omega)] at this
        obtain ⟨q', d', hsh⟩ := ho.shape
        injection hsh with e1 e2 e3
        have HO2 := hid ho
        have HN := hid e2
        have hnz : (n : Int) ≤ (R.length : Int) := by have := HFl.out; rw [e2]; show ((List.filter _ _).length : Int) ≤ _; omega
        clear ho e1 e2 e3
        go_wp2_with fail
        have e := HN.out
        subst e
        obtain ⟨k1, k2, k3⟩ := del_end HZ.out HW.out HO2.out
        exact bodyPost_ret (v := .tuple #[sv q (tickR T R).length d room T, .int .i64 ((R.length : Int) - ((tickR T R).length : Int))]) (ret_stel rfl rfl rfl k1) rfl ⟨q, d, rfl, rde_own H.out k3 k2 (by omega) (fun x hx => (List.mem_filter.1 hx).1), k3⟩

end Go.Proofs.YtoecokidooaaoaaGreatDoor
