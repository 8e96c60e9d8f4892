/- What the deque's methods do, in whatever way a row lies in a block: what the laws lean on; and does. -/
import Derived.Test.YtmlnjcmkengkhaaRefDo
namespace Go.Proofs.Ytmlnjcmkengkhaa
open Go.RowKit

/-- a pointer to a block -/
abbrev ptr (b : Nat) : Value := .pointer (some ⟨b, 0, none⟩)
/-- all blocks but one -/
abbrev But (b : Nat) : Nat → Prop := fun k => k ≠ b
/-- the blocks that came -/
abbrev New (w : World) : Nat → Prop := fun k => w.heap.size ≤ k
structure Meth (Dq : World → Nat → Row → Prop) : Prop where
  turn : ∀ {w w' : World} {b : Nat} {L : Row}, Dq w b L → w'.heap[b]? = w.heap[b]? → Dq w' b L
  lt : ∀ {w : World} {b : Nat} {L : Row}, Dq w b L → b < w.heap.size
  len : ∀ {w : World} {b : Nat} {L : Row}, Dq w b L → L.length ≤ 256
  new : ∀ w, Calls Try.prog 9 #[] w fun e w' => ∃ b, e = .returned (ptr b) ∧ Hid (w.heap.size ≤ b ∧ Dq w' b [] ∧ Below w.heap.size w w')
  push : ∀ (b : Nat) (L : Row) (f : Bool) (s : List UInt8) (w : World), Dq w b L → Calls Try.prog 15 #[ptr b, .bool f, txt s] w fun e w' => e = .returned (.bool (pushB L)) ∧ Hid (Dq w' b (pushL L f s) ∧ Keep (But b) w w')
  pop : ∀ (b : Nat) (L : Row) (f : Bool) (w : World), Dq w b L → Calls Try.prog 16 #[ptr b, .bool f] w fun e w' => e = .returned (.tuple #[txt (popS L f), .bool (popB L)]) ∧ Hid (Dq w' b (popL L f) ∧ Keep (But b) w w')
  length : ∀ (b : Nat) (L : Row) (w : World), Dq w b L → Calls Try.prog 17 #[ptr b] w fun e w' => e = .returned (.int .i64 L.length) ∧ Hid (Dq w' b L ∧ Keep (But b) w w')
  spot : ∀ (b : Nat) (L : Row) (i : Int) (w : World), Dq w b L → -9223372036854775808 ≤ i → i ≤ 9223372036854775807 → Calls Try.prog 24 #[ptr b, .int .i64 i] w fun e w' => e = .returned (.tuple #[txt (atS L i), .bool (atB L i)]) ∧ Hid (Dq w' b L ∧ Keep (But b) w w')
  put : ∀ (b : Nat) (L : Row) (i : Int) (s : List UInt8) (w : World), Dq w b L → -9223372036854775808 ≤ i → i ≤ 9223372036854775807 → Calls Try.prog 25 #[ptr b, .int .i64 i, txt s] w fun e w' => e = .returned (.bool (atB L i)) ∧ Hid (Dq w' b (putL L i s) ∧ Keep (But b) w w')
  range : ∀ (b : Nat) (L : Row) (f t : Int) (w : World), Dq w b L → -9223372036854775808 ≤ f → f ≤ 9223372036854775807 → -9223372036854775808 ≤ t → t ≤ 9223372036854775807 → Calls Try.prog 13 #[ptr b, .int .i64 f, .int .i64 t] w fun e w' => ∃ p c, e = .returned (.slice p (rangeL L f t).length c) ∧ Hid (Tl (New w) w' (.slice p (rangeL L f t).length c) (rangeL L f t) ∧ Dq w' b L ∧ Keep (But b) w w')
  trim : ∀ (b : Nat) (L : Row) (f t : Int) (w : World), Dq w b L → -9223372036854775808 ≤ f → f ≤ 9223372036854775807 → -9223372036854775808 ≤ t → t ≤ 9223372036854775807 → Calls Try.prog 19 #[ptr b, .int .i64 f, .int .i64 t] w fun e w' => e = .returned (.tuple #[]) ∧ Hid (Dq w' b (rangeL L f t) ∧ Keep (But b) w w')
  clone : ∀ (b : Nat) (L : Row) (w : World), Dq w b L → Calls Try.prog 14 #[ptr b] w fun e w' => ∃ c, e = .returned (ptr c) ∧ Hid (w.heap.size ≤ c ∧ Dq w' c L ∧ Below w.heap.size w w')
theorem Meth.keep {Dq : World → Nat → Row → Prop} (M : Meth Dq) {P : Nat → Prop} {w w' : World} {b : Nat} {L : Row} (h : Dq w b L) (k : Keep P w w') (hb : P b) : Dq w' b L := M.turn h (k.block b (M.lt h) hb)
theorem Meth.below {Dq : World → Nat → Row → Prop} (M : Meth Dq) {w w' : World} {b : Nat} {L : Row} (h : Dq w b L) (k : Below w.heap.size w w') : Dq w' b L := M.turn h (k.block b (M.lt h))
theorem ans_facts {w : World} {b : Nat} {x y z : Value} (h : w.heap[b]? = some (.cells #[x, y, z] 42 (0, 0))) :
    (w.cell? ⟨b, 0, none⟩ = some x ∧ w.cell? ⟨b, 1, none⟩ = some y ∧ w.cell? ⟨b, 2, none⟩ = some z) ∧ w.frozen? ⟨b, 0, none⟩ = false ∧ w.frozen? ⟨b, 1, none⟩ = false ∧ w.frozen? ⟨b, 2, none⟩ = false :=
  ⟨⟨cell_of_row w b 0 _ _ _ h, cell_of_row w b 1 _ _ _ h, cell_of_row w b 2 _ _ _ h⟩, frozen_of_row w b 0 _ _ h, frozen_of_row w b 1 _ _ h, frozen_of_row w b 2 _ _ h⟩
theorem ret_ans {fn : Func} {p : Tmp} (h : fn.results = #[.cell p 42]) {tmps : Array Value} {w : World} {b : Nat} {x y z : Value} (hp : tmps.getD p undef = .pointer (some ⟨b, 0, none⟩)) (hB : w.heap[b]? = some (.cells #[x, y, z] 42 (0, 0))) :
    (results fn tmps).run Try.prog w = .ok (.agg #[x, y, z]) w :=
  results_cell_row h tmps w b 42 #[x, y, z] (0, 0) _ hp hB Try.underlying42 rfl (infoA x y z)
/-- the three blocks that does begins with -/
abbrev boxed3 (w : World) (o : OpL) : World := (boxed w o).alloc (.cells #[.string ⟨#[]⟩, .bool false, .slice none 0 0] 42)
theorem boxed3_size (w : World) (o : OpL) : (boxed3 w o).heap.size = w.heap.size + 3 := by simp
theorem boxed3_below (w : World) (o : OpL) : Below w.heap.size w (boxed3 w o) := (boxed_below w o).alloc (by simp; omega) _
theorem boxed3_res (w : World) (o : OpL) : (boxed3 w o).heap[w.heap.size + 1]? = some (.cells #[.string ⟨#[]⟩, .bool false, .slice none 0 0] 42 (0, 0)) :=
  (heap_alloc_old (boxed w o) _ (by simp)).trans (boxed_ans w o)
theorem boxed3_ans (w : World) (o : OpL) : (boxed3 w o).heap[w.heap.size + 2]? = some (.cells #[.string ⟨#[]⟩, .bool false, .slice none 0 0] 42 (0, 0)) := by
  have := heap_alloc_new (boxed w o) (.cells #[.string ⟨#[]⟩, .bool false, .slice none 0 0] 42)
  rwa [boxed_size] at this
theorem keep_setCell {P : Nat → Prop} {w w' : World} (h : Keep P w w') (g i : Nat) (u : Value) (hg : ¬ P g) : Keep P w (w'.setCell ⟨g, i, none⟩ u) :=
  h.trans ⟨rfl, rfl, rfl, by simp, fun k _ hk => heap_setCell_other w' ⟨g, i, none⟩ k u (fun e => hg (by rw [show g = k from e.symm]; exact hk))⟩

end Go.Proofs.Ytmlnjcmkengkhaa
