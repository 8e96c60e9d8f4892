/- The program's dict in memory: rooms and tables. -/
import Derived.Test.YtphegggekcjenaaDoorTags
namespace Go.Proofs.YtphegggekcjenaaDoor.DI
open Go.RowKit

/-- a room's cells -/
def flat (l : Its Int) : List Value := l.flatMap (fun x => [txt x.1, (.int .i64 (x.2))])
theorem flat_nil : flat [] = [] := rfl
theorem flat_cons (x : Nm × Int) (l : Its Int) : flat (x :: l) = txt x.1 :: (.int .i64 (x.2)) :: flat l := rfl
theorem flat_app (a b : Its Int) : flat (a ++ b) = flat a ++ flat b := by simp [flat]
theorem flat_len : ∀ l : Its Int, (flat l).length = l.length * 2
  | [] => rfl
  | x :: l => by rw [flat_cons, List.length_cons, List.length_cons, flat_len l, List.length_cons]; omega
theorem flat_get : ∀ (l : Its Int) (i : Nat) (h : i < l.length), (flat l)[i * 2]? = some (txt l[i].1) ∧ (flat l)[i * 2 + 1]? = some (.int .i64 (l[i].2))
  | x :: l, 0, _ => ⟨rfl, rfl⟩
  | x :: l, i + 1, h => by
    have := flat_get l i (by simpa using h)
    rw [flat_cons, show (i + 1) * 2 = i * 2 + 1 + 1 by omega]
    simpa using this
theorem flat_put (a b : Its Int) (n : Nm) (v0 v : Int) : (flat (a ++ (n, v0) :: b)).set (a.length * 2 + 1) (.int .i64 v) = flat (a ++ (n, v) :: b) := by
  rw [flat_app, flat_app, flat_cons, flat_cons, List.set_append_right _ _ (by rw [flat_len]; omega), flat_len, show a.length * 2 + 1 - a.length * 2 = 1 by omega]
  rfl
theorem flat_one (l : Its Int) : ∀ u ∈ flat l, u.oneCell' = true := by
  intro u hu
  simp only [flat, List.mem_flatMap] at hu
  obtain ⟨x, _, hx⟩ := hu
  simp only [List.mem_cons, List.not_mem_nil, or_false] at hx
  rcases hx with rfl | rfl <;> rfl
/-- a room -/
abbrev Room (w : World) (u : Value) (l : Its Int) : Prop := w.ownsRow 0 75 2 u l.length (flat l)
theorem Room.nil (w : World) : Room w (.slice none 0 0) [] := World.ownsRow_nil w 0 _ _
theorem Room.shape {w : World} {u : Value} {l : Its Int} (h : Room w u l) : ∃ p c, u = .slice p l.length c := by
  rcases h.2 with ⟨rfl, h0⟩ | ⟨g, cap, cur, rfl, _⟩
  · exact ⟨none, 0, by rw [h0]⟩
  · exact ⟨_, _, rfl⟩
theorem Room.turn {w w' : World} {u : Value} {l : Its Int} (h : Room w u l) (hk : ∀ k, u.ownBlock = some k → w'.heap[k]? = w.heap[k]?) : Room w' u l := by
  refine ⟨h.1, ?_⟩
  rcases h.2 with h | ⟨g, cap, cur, rfl, h2, h3, h4⟩
  · exact .inl h
  · exact .inr ⟨g, cap, cur, rfl, h2, (hk g rfl).trans h3, h4⟩
theorem Room.lt {w : World} {u : Value} {l : Its Int} (h : Room w u l) {k : Nat} (hk : u.ownBlock = some k) : k < w.heap.size := (World.ownsRow.lt h k hk).2
/-- where its names and values lie -/
theorem Room.cells {w : World} {p : Option Addr} {n c : Nat} {l : Its Int} (h : Room w (.slice p n c) l) (i : Nat) (hi : i < l.length) : ∃ g, p = some ⟨g, 0, none⟩ ∧ ∀ j (hj : j < l.length), w.cell? ⟨g, j * 2, none⟩ = some (txt l[j].1) ∧ w.cell? ⟨g, j * 2 + 1, none⟩ = some (.int .i64 (l[j].2)) := by
  rcases h.2 with ⟨_, h0⟩ | ⟨g, cap, cur, e, _⟩
  · omega
  · injection e with e1 e2 e3
    subst e1
    refine ⟨g, rfl, fun j hj => ?_⟩
    obtain ⟨f1, f2⟩ := flat_get l j hj
    have := World.ownsRow.cells h (g := g) rfl _ _ f1
    have := World.ownsRow.cells h (g := g) rfl _ _ f2
    simp only [Go.WideShapes.add_plain, Nat.zero_add] at *
    exact ⟨by assumption, by assumption⟩
/-- a table in block nb -/
def TabIs (w : World) (g : Tg) (e : Bool) (nb : Nat) (l : Tb Int) : Prop :=
  ∃ rv : Array Value, w.heap[nb]? = some (.cells rv 73 (0, 0)) ∧ rv.size = l.length ∧ g nb = some (.tab e) ∧
    ∀ i (hi : i < l.length), ∃ u, rv[i]? = some u ∧ Room w u l[i] ∧ ∀ k, u.ownBlock = some k → g k = some (.room e i)
theorem TabIs.turn {w w' : World} {g g' : Tg} {e : Bool} {nb : Nat} {l : Tb Int} (h : TabIs w g e nb l) (h1 : ∀ k, g k = some (.tab e) → g' k = some (.tab e) ∧ w'.heap[k]? = w.heap[k]?) (h2 : ∀ k i, g k = some (.room e i) → g' k = some (.room e i) ∧ w'.heap[k]? = w.heap[k]?) : TabIs w' g' e nb l := by
  obtain ⟨rv, a, b, c, d⟩ := h
  refine ⟨rv, (h1 nb c).2.trans a, b, (h1 nb c).1, fun i hi => ?_⟩
  obtain ⟨u, x, y, z⟩ := d i hi
  exact ⟨u, x, y.turn (fun k hk => (h2 k i (z k hk)).2), fun k hk => (h2 k i (z k hk)).1⟩
/-- a room's slice -/
theorem TabIs.room {w : World} {g : Tg} {e : Bool} {nb : Nat} {l : Tb Int} (h : TabIs w g e nb l) (i : Nat) (hi : i < l.length) : ∃ u, w.cell? ⟨nb, i, none⟩ = some u ∧ w.frozen? ⟨nb, i, none⟩ = false ∧ Room w u l[i] ∧ ∀ k, u.ownBlock = some k → g k = some (.room e i) := by
  obtain ⟨rv, a, _, _, d⟩ := h
  obtain ⟨u, x, y, z⟩ := d i hi
  exact ⟨u, by rw [cell_of_row w nb i _ _ _ a]; exact x, frozen_of_row w nb i _ _ a, y, z⟩
/-- a room is another one -/
theorem TabIs.set {w w' : World} {g g' : Tg} {e : Bool} {nb : Nat} {l : Tb Int} (h : TabIs w g e nb l) (i : Nat) (u : Value) (m : Its Int)
    (hn : ∀ rv, w.heap[nb]? = some (.cells rv 73 (0, 0)) → w'.heap[nb]? = some (.cells (rv.setIfInBounds i u) 73 (0, 0))) (hg : g' nb = g nb) (hu : Room w' u m) (hk : ∀ k, u.ownBlock = some k → g' k = some (.room e i))
    (ho : ∀ k j, j ≠ i → g k = some (.room e j) → g' k = some (.room e j) ∧ w'.heap[k]? = w.heap[k]?) : TabIs w' g' e nb (l.set i m) := by
  obtain ⟨rv, a, b, c, d⟩ := h
  refine ⟨_, hn rv a, by simpa using b, hg.trans c, fun j hj => ?_⟩
  rw [List.length_set] at hj
  by_cases hij : i = j
  · subst hij
    refine ⟨u, Array.getElem?_setIfInBounds_self_of_lt (by omega), ?_, hk⟩
    simpa using hu
  · obtain ⟨v, x, y, z⟩ := d j hj
    refine ⟨v, ?_, ?_, fun k hk => (ho k j (Ne.symm hij) (z k hk)).1⟩
    · rw [Array.getElem?_setIfInBounds_ne hij]; exact x
    · rw [List.getElem_set_ne hij]
      exact y.turn (fun k hk => (ho k j (Ne.symm hij) (z k hk)).2)
/-- the elder table, if there is one -/
def ElIs (w : World) (g : Tg) (ev : Value) (l : Tb Int) : Prop := (ev = .slice none 0 0 ∧ l = []) ∨ ∃ eb, ev = .slice (some ⟨eb, 0, none⟩) l.length l.length ∧ l ≠ [] ∧ TabIs w g true eb l
theorem ElIs.turn {w w' : World} {g g' : Tg} {ev : Value} {l : Tb Int} (h : ElIs w g ev l) (h1 : ∀ k, g k = some (.tab true) → g' k = some (.tab true) ∧ w'.heap[k]? = w.heap[k]?) (h2 : ∀ k i, g k = some (.room true i) → g' k = some (.room true i) ∧ w'.heap[k]? = w.heap[k]?) : ElIs w' g' ev l := by
  rcases h with h | ⟨eb, a, b, c⟩
  · exact .inl h
  · exact .inr ⟨eb, a, b, c.turn h1 h2⟩
/-- a dict's four cells -/
abbrev headC (nb : Nat) (ev : Value) (T : TM Int) (many : Nat) : Array Value := #[.slice (some ⟨nb, 0, none⟩) T.nw.length T.nw.length, ev, .int .i64 T.tk, .int .i64 many]
/-- a dict in block b -/
structure Lies (B : Nat) (w : World) (g : Tg) (b nb : Nat) (ev : Value) (T : TM Int) (many : Nat) : Prop where
  head : w.heap[b]? = some (.cells (headC nb ev T many) 68 (0, 0))
  tag : g b = some .dict
  nw : TabIs w g false nb T.nw
  el : ElIs w g ev T.el
  lt : ∀ k, g k ≠ none → k < w.heap.size ∧ B ≤ k
theorem Lies.turn {B : Nat} {w w' : World} {g : Tg} {b nb : Nat} {ev : Value} {T : TM Int} {many : Nat} (h : Lies B w g b nb ev T many) (hk : ∀ k, g k ≠ none → w'.heap[k]? = w.heap[k]?) (hs : w.heap.size ≤ w'.heap.size) : Lies B w' g b nb ev T many where
  head := (hk b (by rw [h.tag]; simp)).trans h.head
  tag := h.tag
  nw := h.nw.turn (fun k e => ⟨e, hk k (by rw [e]; simp)⟩) (fun k i e => ⟨e, hk k (by rw [e]; simp)⟩)
  el := h.el.turn (fun k e => ⟨e, hk k (by rw [e]; simp)⟩) (fun k i e => ⟨e, hk k (by rw [e]; simp)⟩)
  lt := fun k e => ⟨Nat.lt_of_lt_of_le (h.lt k e).1 hs, (h.lt k e).2⟩
theorem Lies.below {B : Nat} {w w' : World} {g : Tg} {b nb : Nat} {ev : Value} {T : TM Int} {many : Nat} (h : Lies B w g b nb ev T many) (k : Below w.heap.size w w') : Lies B w' g b nb ev T many := h.turn (fun i hi => k.block i (h.lt i hi).1) k.size
theorem Lies.cells {B : Nat} {w : World} {g : Tg} {b nb : Nat} {ev : Value} {T : TM Int} {many : Nat} (h : Lies B w g b nb ev T many) : w.cell? ⟨b, 0, none⟩ = some (.slice (some ⟨nb, 0, none⟩) T.nw.length T.nw.length) ∧ w.cell? ⟨b, 1, none⟩ = some ev ∧ w.cell? ⟨b, 2, none⟩ = some (.int .i64 T.tk) ∧ w.cell? ⟨b, 3, none⟩ = some (.int .i64 many) :=
  ⟨cell_of_row w b 0 _ _ _ h.head, cell_of_row w b 1 _ _ _ h.head, cell_of_row w b 2 _ _ _ h.head, cell_of_row w b 3 _ _ _ h.head⟩
theorem Lies.frozen {B : Nat} {w : World} {g : Tg} {b nb : Nat} {ev : Value} {T : TM Int} {many : Nat} (h : Lies B w g b nb ev T many) (i : Nat) : w.frozen? ⟨b, i, none⟩ = false := frozen_of_row w b i _ _ h.head

end Go.Proofs.YtphegggekcjenaaDoor.DI
