/- EBase, DEBase, DEPlace. -/
import Derived.Test.YtcbncdigejjcpaaGreatDoorM13
import Derived.Test.YtcbncdigejjcpaaGreatDoorM08
import Derived.Deep.RegionLaw
import Derived.WalkLawsBesides
namespace Go.Proofs.YtcbncdigejjcpaaGreatDoor
open Go.RowKit

/-- an entry, and where its value's rows lie -/
structure E8 where
  key : Nm
  m : Vl
  pp : Option Addr
  pc : Nat
  ip : Option Addr
  ic : Nat
  ends : Int
abbrev E8.cells (x : E8) : Array Value := #[txt x.key, .int .i64 x.m.kind, txt x.m.text, .slice x.pp x.m.pairs.length x.pc, .slice x.ip x.m.items.length x.ic, .int .i64 x.m.px, .int .i64 x.m.py, .int .i64 x.ends]
abbrev ev (x : E8) : Value := .agg x.cells
abbrev eob (x : E8) : Obj := .cells x.cells 51
/-- what it points to lies in blocks of P -/
structure Lies (P : Nat → Prop) (w : World) (x : E8) : Prop where
  vi : VI w x.m x.pp x.pc x.ip x.ic
  pairs : x.m.pairs ≠ [] → ∀ a, x.pp = some a → P a.block
  items : x.m.items ≠ [] → ∀ a, x.ip = some a → P a.block
theorem prs_keep {P : Nat → Prop} {w w' : World} {p : Option Addr} {l : List (Nm × Nm)} (h : Prs w p l) (hp : l ≠ [] → ∀ a, p = some a → P a.block) (k : Keep P w w') : Prs w' p l := fun hne => by
  obtain ⟨b, o, rfl, hc⟩ := h hne
  have hb := hp hne _ rfl
  exact ⟨b, o, rfl, fun i hi => ⟨cell_turn (hc i hi).1 (k.block b (block_lt_of_cell (hc i hi).1) hb), cell_turn (hc i hi).2 (k.block b (block_lt_of_cell (hc i hi).1) hb)⟩⟩
theorem strs_keep {P : Nat → Prop} {w w' : World} {p : Option Addr} {l : Row} (h : Strs w p l) (hp : l ≠ [] → ∀ a, p = some a → P a.block) (k : Keep P w w') : Strs w' p l := fun hne => by
  obtain ⟨b, o, rfl, hc⟩ := h hne
  have hb := hp hne _ rfl
  exact ⟨b, o, rfl, fun i hi => cell_turn (hc i hi) (k.block b (block_lt_of_cell (hc i hi)) hb)⟩
theorem Lies.keep {P Q : Nat → Prop} {w w' : World} {x : E8} (h : Lies P w x) (k : Keep P w w') (hq : ∀ i, P i → Q i) : Lies Q w' x :=
  ⟨⟨⟨prs_keep h.vi.pairs.prs h.pairs k, h.vi.pairs.nil, h.vi.pairs.cap⟩, ⟨strs_keep h.vi.items.strs h.items k, h.vi.items.nil, h.vi.items.cap⟩⟩, fun hne a ha => hq _ (h.pairs hne a ha), fun hne a ha => hq _ (h.items hne a ha)⟩
theorem Lies.below {P : Nat → Prop} {w w' : World} {x : E8} (h : Lies P w x) (k : Below w.heap.size w w') : Lies P w' x := h.keep (Keep.of_below k) (fun _ h => h)
theorem infoE (c : Array Value) (h : c.size = 8) : (Tryz.prog.info? 51).map (·.size) = some c.size := by
  rw [h]; kernel_rfl
theorem ent_facts {w : World} {b : Nat} {c0 c1 c2 c3 c4 c5 c6 c7 : Value} (h : w.heap[b]? = some (.cells #[c0, c1, c2, c3, c4, c5, c6, c7] 51 (0, 0))) :
    w.cell? ⟨b, 0, none⟩ = some c0 ∧ w.cell? ⟨b, 1, none⟩ = some c1 ∧ w.cell? ⟨b, 2, none⟩ = some c2 ∧ w.cell? ⟨b, 3, none⟩ = some c3 ∧ w.cell? ⟨b, 4, none⟩ = some c4 ∧ w.cell? ⟨b, 5, none⟩ = some c5 ∧ w.cell? ⟨b, 6, none⟩ = some c6 ∧ w.cell? ⟨b, 7, none⟩ = some c7 :=
  ⟨cell_of_row w b 0 _ _ _ h, cell_of_row w b 1 _ _ _ h, cell_of_row w b 2 _ _ _ h, cell_of_row w b 3 _ _ _ h, cell_of_row w b 4 _ _ _ h, cell_of_row w b 5 _ _ _ h, cell_of_row w b 6 _ _ _ h, cell_of_row w b 7 _ _ _ h⟩
theorem ent_frozen {w : World} {b : Nat} {c0 c1 c2 c3 c4 c5 c6 c7 : Value} (h : w.heap[b]? = some (.cells #[c0, c1, c2, c3, c4, c5, c6, c7] 51 (0, 0))) :
    w.frozen? ⟨b, 0, none⟩ = false ∧ w.frozen? ⟨b, 1, none⟩ = false ∧ w.frozen? ⟨b, 2, none⟩ = false ∧ w.frozen? ⟨b, 3, none⟩ = false ∧ w.frozen? ⟨b, 4, none⟩ = false ∧ w.frozen? ⟨b, 5, none⟩ = false ∧ w.frozen? ⟨b, 6, none⟩ = false ∧ w.frozen? ⟨b, 7, none⟩ = false :=
  ⟨frozen_of_row w b 0 _ _ h, frozen_of_row w b 1 _ _ h, frozen_of_row w b 2 _ _ h, frozen_of_row w b 3 _ _ h, frozen_of_row w b 4 _ _ h, frozen_of_row w b 5 _ _ h, frozen_of_row w b 6 _ _ h, frozen_of_row w b 7 _ _ h⟩
theorem ent_new (w : World) (x : E8) : (w.alloc (eob x)).heap[w.heap.size]? = some (.cells x.cells 51 (0, 0)) := heap_alloc_new w _
theorem ret_etel {fn : Func} {p q : Tmp} (h : fn.results = #[.cell p 51, .tmp q]) {tmps : Array Value} {w : World} {b : Nat} {c0 c1 c2 c3 c4 c5 c6 c7 v : Value} (hp : tmps.getD p undef = .pointer (some ⟨b, 0, none⟩)) (hq : tmps.getD q undef = v) (hB : w.heap[b]? = some (.cells #[c0, c1, c2, c3, c4, c5, c6, c7] 51 (0, 0))) :
    (results fn tmps).run Tryz.prog w = .ok (.tuple #[.agg #[c0, c1, c2, c3, c4, c5, c6, c7], v]) w := by
  have hp' : tmps[p]?.getD undef = .pointer (some ⟨b, 0, none⟩) := by simpa using hp
  have hq' : tmps[q]?.getD undef = v := by simpa using hq
  simp [results, h, hp', hq', asAddr, run_loadVar_row w b 51 51 #[c0, c1, c2, c3, c4, c5, c6, c7] (0, 0) _ hB Tryz.underlying51 rfl (infoE _ rfl)]
end Go.Proofs.YtcbncdigejjcpaaGreatDoor

namespace Go.Proofs.YtcbncdigejjcpaaGreatDoor.Dc.DE
open Go.RowKit

/-- a room's cells -/
def flat (l : Its E8) : List Value := l.flatMap (fun x => txt x.1 :: x.2.cells.toList)
theorem flat_cons (x : Nm × E8) (l : Its E8) : flat (x :: l) = txt x.1 :: (x.2.cells.toList ++ flat l) := rfl
theorem flat_app (a b : Its E8) : flat (a ++ b) = flat a ++ flat b := by simp [flat]
theorem flat_len : ∀ l : Its E8, (flat l).length = l.length * 9
  | [] => rfl
  | x :: l => by rw [flat_cons, List.length_cons, List.length_append, flat_len l, List.length_cons]; simp; omega
theorem flat_get : ∀ (l : Its E8) (i : Nat) (h : i < l.length), (flat l)[i * 9]? = some (txt l[i].1) ∧ ∀ j, j < 8 → (flat l)[i * 9 + 1 + j]? = l[i].2.cells[j]?
  | x :: l, 0, _ => by
    rw [flat_cons]
    refine ⟨rfl, fun j hj => ?_⟩
    show (txt x.1 :: (x.2.cells.toList ++ flat l))[0 * 9 + 1 + j]? = _
    rw [show 0 * 9 + 1 + j = j + 1 by omega, List.getElem?_cons_succ, List.getElem?_append_left (by simpa using hj)]
    simp
  | x :: l, i + 1, h => by
    obtain ⟨h1, h2⟩ := flat_get l i (by simpa using h)
    have e : ∀ m, (flat (x :: l))[9 + m]? = (flat l)[m]? := fun m => by
      rw [flat_cons, show 9 + m = (8 + m) + 1 by omega, List.getElem?_cons_succ, List.getElem?_append_right (by simp)]
      simp
    refine ⟨?_, fun j hj => ?_⟩
    · rw [show (i + 1) * 9 = 9 + i * 9 by omega, e]
      simpa using h1
    · rw [show (i + 1) * 9 + 1 + j = 9 + (i * 9 + 1 + j) by omega, e]
      simpa using h2 j hj
theorem cells_one (x : E8) : ∀ u ∈ x.cells.toList, u.oneCell' = true := by
  intro u hu
  simp only [List.mem_cons, List.not_mem_nil, or_false] at hu
  rcases hu with rfl | rfl | rfl | rfl | rfl | rfl | rfl | rfl <;> rfl
theorem flat_one (l : Its E8) : ∀ u ∈ flat l, u.oneCell' = true := by
  intro u hu
  simp only [flat, List.mem_flatMap] at hu
  obtain ⟨x, _, hx⟩ := hu
  rcases List.mem_cons.1 hx with rfl | hx
  · rfl
  · exact cells_one x.2 u hx
/-- no entry -/
def e80 : E8 := ⟨[], ⟨0, [], [], [], 0, 0⟩, none, 0, none, 0, 0⟩
/-- a room -/
abbrev Room (w : World) (u : Value) (l : Its E8) : Prop := w.ownsRow 0 90 9 u l.length (flat l)
theorem Room.nil (w : World) : Room w (.slice none 0 0) [] := World.ownsRow_nil w 0 _ _
theorem Room.shape {w : World} {u : Value} {l : Its E8} (h : Room w u l) : ∃ p c, u = .slice p l.length c := by
  rcases h.2 with ⟨rfl, h0⟩ | ⟨g, cap, cur, rfl, _⟩
  · exact ⟨none, 0, by rw [h0]⟩
  · exact ⟨_, _, rfl⟩
theorem Room.turn {w w' : World} {u : Value} {l : Its E8} (h : Room w u l) (hk : ∀ k, u.ownBlock = some k → w'.heap[k]? = w.heap[k]?) : Room w' u l := by
  refine ⟨h.1, ?_⟩
  rcases h.2 with h | ⟨g, cap, cur, rfl, h2, h3, h4⟩
  · exact .inl h
  · exact .inr ⟨g, cap, cur, rfl, h2, (hk g rfl).trans h3, h4⟩
theorem Room.lt {w : World} {u : Value} {l : Its E8} (h : Room w u l) {k : Nat} (hk : u.ownBlock = some k) : k < w.heap.size := (World.ownsRow.lt h k hk).2
/-- where its names and values lie -/
theorem Room.cells {w : World} {p : Option Addr} {n c : Nat} {l : Its E8} (h : Room w (.slice p n c) l) (i : Nat) (hi : i < l.length) : ∃ g, p = some ⟨g, 0, none⟩ ∧ ∀ j (hj : j < l.length), w.cell? ⟨g, j * 9, none⟩ = some (txt l[j].1) ∧ w.cell? ⟨g, j * 9 + 1, none⟩ = some (txt l[j].2.key) ∧ w.cell? ⟨g, j * 9 + 2, none⟩ = some (.int .i64 l[j].2.m.kind) ∧ w.cell? ⟨g, j * 9 + 3, none⟩ = some (txt l[j].2.m.text) ∧ w.cell? ⟨g, j * 9 + 4, none⟩ = some (.slice l[j].2.pp l[j].2.m.pairs.length l[j].2.pc) ∧ w.cell? ⟨g, j * 9 + 5, none⟩ = some (.slice l[j].2.ip l[j].2.m.items.length l[j].2.ic) ∧ w.cell? ⟨g, j * 9 + 6, none⟩ = some (.int .i64 l[j].2.m.px) ∧ w.cell? ⟨g, j * 9 + 7, none⟩ = some (.int .i64 l[j].2.m.py) ∧ w.cell? ⟨g, j * 9 + 8, none⟩ = some (.int .i64 l[j].2.ends) := by
  rcases h.2 with ⟨_, h0⟩ | ⟨g, cap, cur, e, _⟩
  · omega
  · injection e with e1 e2 e3
    subst e1
    refine ⟨g, rfl, fun j hj => ?_⟩
    obtain ⟨f1, f2⟩ := flat_get l j hj
    have key : ∀ m v, (flat l)[m]? = some v → w.cell? ⟨g, m, none⟩ = some v := fun m v e => by
      have := World.ownsRow.cells h (g := g) rfl _ _ e
      simpa only [Go.WideShapes.add_plain, Nat.zero_add] using this
    exact ⟨key _ _ f1, key _ _ (f2 0 (by decide)), key _ _ (f2 1 (by decide)), key _ _ (f2 2 (by decide)), key _ _ (f2 3 (by decide)), key _ _ (f2 4 (by decide)), key _ _ (f2 5 (by decide)), key _ _ (f2 6 (by decide)), key _ _ (f2 7 (by decide))⟩
/-- a table in block nb -/
def TabIs (w : World) (g : Tg) (e : Bool) (nb : Nat) (l : Tb E8) : Prop :=
  ∃ rv : Array Value, w.heap[nb]? = some (.cells rv 88 (0, 0)) ∧ rv.size = l.length ∧ g nb = some (.tab e) ∧
    ∀ i (hi : i < l.length), ∃ u, rv[i]? = some u ∧ Room w u l[i] ∧ ∀ k, u.ownBlock = some k → g k = some (.room e i)
theorem TabIs.turn {w w' : World} {g g' : Tg} {e : Bool} {nb : Nat} {l : Tb E8} (h : TabIs w g e nb l) (h1 : ∀ k, g k = some (.tab e) → g' k = some (.tab e) ∧ w'.heap[k]? = w.heap[k]?) (h2 : ∀ k i, g k = some (.room e i) → g' k = some (.room e i) ∧ w'.heap[k]? = w.heap[k]?) : TabIs w' g' e nb l := by
  obtain ⟨rv, a, b, c, d⟩ := h
  refine ⟨rv, (h1 nb c).2.trans a, b, (h1 nb c).1, fun i hi => ?_⟩
  obtain ⟨u, x, y, z⟩ := d i hi
  exact ⟨u, x, y.turn (fun k hk => (h2 k i (z k hk)).2), fun k hk => (h2 k i (z k hk)).1⟩
/-- a room's slice -/
theorem TabIs.room {w : World} {g : Tg} {e : Bool} {nb : Nat} {l : Tb E8} (h : TabIs w g e nb l) (i : Nat) (hi : i < l.length) : ∃ u, w.cell? ⟨nb, i, none⟩ = some u ∧ w.frozen? ⟨nb, i, none⟩ = false ∧ Room w u l[i] ∧ ∀ k, u.ownBlock = some k → g k = some (.room e i) := by
  obtain ⟨rv, a, _, _, d⟩ := h
  obtain ⟨u, x, y, z⟩ := d i hi
  exact ⟨u, by rw [cell_of_row w nb i _ _ _ a]; exact x, frozen_of_row w nb i _ _ a, y, z⟩
/-- a room is another one -/
theorem TabIs.set {w w' : World} {g g' : Tg} {e : Bool} {nb : Nat} {l : Tb E8} (h : TabIs w g e nb l) (i : Nat) (u : Value) (m : Its E8)
    (hn : ∀ rv, w.heap[nb]? = some (.cells rv 88 (0, 0)) → w'.heap[nb]? = some (.cells (rv.setIfInBounds i u) 88 (0, 0))) (hg : g' nb = g nb) (hu : Room w' u m) (hk : ∀ k, u.ownBlock = some k → g' k = some (.room e i))
    (ho : ∀ k j, j ≠ i → g k = some (.room e j) → g' k = some (.room e j) ∧ w'.heap[k]? = w.heap[k]?) : TabIs w' g' e nb (l.set i m) := by
  obtain ⟨rv, a, b, c, d⟩ := h
  refine ⟨_, hn rv a, by simpa using b, hg.trans c, fun j hj => ?_⟩
  rw [List.length_set] at hj
  by_cases hij : i = j
  · subst hij
    refine ⟨u, Array.getElem?_setIfInBounds_self_of_lt (by omega), ?_, hk⟩
    simpa using hu
  · obtain ⟨v, x, y, z⟩ := d j hj
    refine ⟨v, ?_, ?_, fun k hk => (ho k j (Ne.symm hij) (z k hk)).1⟩
    · rw [Array.getElem?_setIfInBounds_ne hij]; exact x
    · rw [List.getElem_set_ne hij]
      exact y.turn (fun k hk => (ho k j (Ne.symm hij) (z k hk)).2)
/-- the elder table, if there is one -/
def ElIs (w : World) (g : Tg) (ev : Value) (l : Tb E8) : Prop := (ev = .slice none 0 0 ∧ l = []) ∨ ∃ eb, ev = .slice (some ⟨eb, 0, none⟩) l.length l.length ∧ l ≠ [] ∧ TabIs w g true eb l
theorem ElIs.turn {w w' : World} {g g' : Tg} {ev : Value} {l : Tb E8} (h : ElIs w g ev l) (h1 : ∀ k, g k = some (.tab true) → g' k = some (.tab true) ∧ w'.heap[k]? = w.heap[k]?) (h2 : ∀ k i, g k = some (.room true i) → g' k = some (.room true i) ∧ w'.heap[k]? = w.heap[k]?) : ElIs w' g' ev l := by
  rcases h with h | ⟨eb, a, b, c⟩
  · exact .inl h
  · exact .inr ⟨eb, a, b, c.turn h1 h2⟩
/-- a dict's four cells -/
abbrev headC (nb : Nat) (ev : Value) (T : TM E8) (many : Nat) : Array Value := #[.slice (some ⟨nb, 0, none⟩) T.nw.length T.nw.length, ev, .int .i64 T.tk, .int .i64 many]
/-- a dict in block b -/
structure Lies (B : Nat) (w : World) (g : Tg) (b nb : Nat) (ev : Value) (T : TM E8) (many : Nat) : Prop where
  head : w.heap[b]? = some (.cells (headC nb ev T many) 83 (0, 0))
  tag : g b = some .dict
  nw : TabIs w g false nb T.nw
  el : ElIs w g ev T.el
  lt : ∀ k, g k ≠ none → k < w.heap.size ∧ B ≤ k
theorem Lies.turn {B : Nat} {w w' : World} {g : Tg} {b nb : Nat} {ev : Value} {T : TM E8} {many : Nat} (h : Lies B w g b nb ev T many) (hk : ∀ k, g k ≠ none → w'.heap[k]? = w.heap[k]?) (hs : w.heap.size ≤ w'.heap.size) : Lies B w' g b nb ev T many where
  head := (hk b (by rw [h.tag]; simp)).trans h.head
  tag := h.tag
  nw := h.nw.turn (fun k e => ⟨e, hk k (by rw [e]; simp)⟩) (fun k i e => ⟨e, hk k (by rw [e]; simp)⟩)
  el := h.el.turn (fun k e => ⟨e, hk k (by rw [e]; simp)⟩) (fun k i e => ⟨e, hk k (by rw [e]; simp)⟩)
  lt := fun k e => ⟨Nat.lt_of_lt_of_le (h.lt k e).1 hs, (h.lt k e).2⟩
theorem Lies.below {B : Nat} {w w' : World} {g : Tg} {b nb : Nat} {ev : Value} {T : TM E8} {many : Nat} (h : Lies B w g b nb ev T many) (k : Below w.heap.size w w') : Lies B w' g b nb ev T many := h.turn (fun i hi => k.block i (h.lt i hi).1) k.size
theorem Lies.cells {B : Nat} {w : World} {g : Tg} {b nb : Nat} {ev : Value} {T : TM E8} {many : Nat} (h : Lies B w g b nb ev T many) : w.cell? ⟨b, 0, none⟩ = some (.slice (some ⟨nb, 0, none⟩) T.nw.length T.nw.length) ∧ w.cell? ⟨b, 1, none⟩ = some ev ∧ w.cell? ⟨b, 2, none⟩ = some (.int .i64 T.tk) ∧ w.cell? ⟨b, 3, none⟩ = some (.int .i64 many) :=
  ⟨cell_of_row w b 0 _ _ _ h.head, cell_of_row w b 1 _ _ _ h.head, cell_of_row w b 2 _ _ _ h.head, cell_of_row w b 3 _ _ _ h.head⟩
theorem Lies.frozen {B : Nat} {w : World} {g : Tg} {b nb : Nat} {ev : Value} {T : TM E8} {many : Nat} (h : Lies B w g b nb ev T many) (i : Nat) : w.frozen? ⟨b, i, none⟩ = false := frozen_of_row w b i _ _ h.head

end Go.Proofs.YtcbncdigejjcpaaGreatDoor.Dc.DE

namespace Go.Proofs.YtcbncdigejjcpaaGreatDoor.Dc.DE
open Go.RowKit

set_option maxHeartbeats 1000000 in
set_option maxRecDepth 100000 in
/-- place -/
theorem place_any (u : Value) (l : Its E8) (n : Nm) (w : World) (h : Room w u l) (hl : l.length ≤ 9223372036854775807) :
    Calls Tryz.prog 139 #[u, txt n] w fun e w' => e = .returned (.int .i64 (plcI n l)) ∧ w' = w := by
  obtain ⟨p, c, rfl⟩ := h.shape
  have H := hid h
  clear h
  go_enter Tryz.func139, Tryz.ntmps139
  go_wp2
  go_loop [5, 8] (fun _ v8 => ∃ i : Nat, v8 = .int .i64 i ∧ i ≤ l.length ∧ Hid (∀ j (hj : j < l.length), j < i → l[j].1 ≠ n)) (fun _ v8 => l.length - (intOf v8).toNat)
  case atStart => exact ⟨0, rfl, Nat.zero_le _, fun j hj h => by omega⟩
  case round =>
    obtain ⟨i, rfl, hi, HN⟩ := hrel
    by_cases hlt : i < l.length
    · obtain ⟨g, rfl, hc⟩ := H.out.cells i hlt
      have x0 := (hc i hlt).1
      have hlz : (i : Int) < (l.length : Int) := by omega
      by_cases he : l[i].1 = n
      · have HP := hid (plcI_some (plc_at i hlt he HN.out))
        rw [he] at x0
        clear hc he
        go_wp2
        go_ret
        exact ⟨ret_int HP.out.symm, rfl⟩
      · have HE := hid he
        have hne : (l[i].1 == n) = false := by
          rw [beq_eq_false_iff_ne]
          exact he
        clear hc he
        go_wp2
        exact ⟨⟨i + 1, by go_num, by omega, fun j hj hji => by
          by_cases e : j = i
          · subst e; exact HE.out
          · exact HN.out j hj (by omega)⟩, by simp [intOf]; omega⟩
    · have HP := hid (plcI_none (plc_not (fun j hj => HN.out j hj (by omega))))
      go_wp2
      go_ret
      exact ⟨ret_int HP.out.symm, rfl⟩

end Go.Proofs.YtcbncdigejjcpaaGreatDoor.Dc.DE
