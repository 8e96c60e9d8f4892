/- A reply as a tree, and where it lies in memory: nothing of the program's functions. -/
import Derived.Test.YtjcfbnhmljlkpaaBase
namespace Go.Proofs.Ytjcfbnhmljlkpaa
open Go.RowKit

/-- a reply -/
inductive Rep where
  | mk (kind int : Int) (text : List UInt8) (list : List Rep)
def Rep.kind : Rep → Int | .mk k _ _ _ => k
def Rep.int : Rep → Int | .mk _ n _ _ => n
def Rep.text : Rep → List UInt8 | .mk _ _ t _ => t
def Rep.list : Rep → List Rep | .mk _ _ _ l => l
theorem Rep.eta : ∀ r : Rep, r = .mk r.kind r.int r.text r.list | .mk _ _ _ _ => rfl
theorem Rep.ext {a b : Rep} (h1 : a.kind = b.kind) (h2 : a.int = b.int) (h3 : a.text = b.text) (h4 : a.list = b.list) : a = b := by rw [a.eta, b.eta, h1, h2, h3, h4]
/-- what a reply's cells can hold -/
structure Fit (r : Rep) : Prop where
  k0 : -9223372036854775808 ≤ r.kind
  k1 : r.kind ≤ 9223372036854775807
  n0 : -9223372036854775808 ≤ r.int
  n1 : r.int ≤ 9223372036854775807
  t : r.text.length ≤ 9223372036854775807
  l : r.list.length ≤ 9223372036854775807
/-- a row of replies in memory, each of which is as R says -/
def RowOf (P : Nat → Prop) (w : World) (R : Value → Rep → Prop) (p : Option Addr) (l : List Rep) : Prop :=
  l ≠ [] → ∃ b o, p = some ⟨b, o, none⟩ ∧ P b ∧ ∀ i (h : i < l.length), ∃ q c, w.cell? ⟨b, o + i * 4, none⟩ = some (.int .i64 l[i].kind) ∧ w.cell? ⟨b, o + i * 4 + 1, none⟩ = some (.int .i64 l[i].int) ∧ w.cell? ⟨b, o + i * 4 + 2, none⟩ = some (.string ⟨l[i].text.toArray⟩) ∧ w.cell? ⟨b, o + i * 4 + 3, none⟩ = some (.slice q l[i].list.length c) ∧
    R (.agg #[.int .i64 l[i].kind, .int .i64 l[i].int, .string ⟨l[i].text.toArray⟩, .slice q l[i].list.length c]) l[i]
/-- a value is a reply, at most so deep; the rows that it leads to lie in blocks of P -/
def Rp (P : Nat → Prop) (w : World) : Nat → Value → Rep → Prop
  | 0, _, _ => False
  | d + 1, v, r => ∃ p c, v = .agg #[.int .i64 r.kind, .int .i64 r.int, .string ⟨r.text.toArray⟩, .slice p r.list.length c] ∧ Fit r ∧ RowOf P w (Rp P w d) p r.list
theorem RowOf.nil (P : Nat → Prop) (w : World) (R : Value → Rep → Prop) (p : Option Addr) : RowOf P w R p [] := fun h => absurd rfl h
theorem Rp.open {P : Nat → Prop} {w : World} : ∀ {d : Nat} {v : Value} {r : Rep}, Rp P w d v r → ∃ e p c, d = e + 1 ∧ v = .agg #[.int .i64 r.kind, .int .i64 r.int, .string ⟨r.text.toArray⟩, .slice p r.list.length c] ∧ Fit r ∧ RowOf P w (Rp P w e) p r.list
  | 0, _, _, h => h.elim
  | d + 1, _, _, ⟨p, c, h1, h2, h3⟩ => ⟨d, p, c, rfl, h1, h2, h3⟩
theorem cell_turn {w w' : World} {b k : Nat} {v : Value} (h : w.cell? ⟨b, k, none⟩ = some v) (he : w'.heap[b]? = w.heap[b]?) : w'.cell? ⟨b, k, none⟩ = some v := by
  rw [World.cell?_of_block (w := w) he]; exact h
/-- to another world in which the blocks are the same -/
theorem Rp.turn {P Q : Nat → Prop} {w w' : World} (hk : ∀ b, P b → b < w.heap.size → Q b ∧ w'.heap[b]? = w.heap[b]?) : ∀ {d e : Nat} {v : Value} {r : Rep}, d ≤ e → Rp P w d v r → Rp Q w' e v r := by
  intro d
  induction d with
  | zero => intro e v r _ h; exact h.elim
  | succ d ih =>
    intro e v r hde h
    obtain ⟨p, c, h1, h2, h3⟩ := h
    cases e with
    | zero => omega
    | succ e =>
      refine ⟨p, c, h1, h2, fun hne => ?_⟩
      obtain ⟨b, o, e1, e2, e3⟩ := h3 hne
      have hpos : 0 < r.list.length := List.length_pos_iff.2 hne
      obtain ⟨_, _, c0, _⟩ := e3 0 hpos
      obtain ⟨k1, k2⟩ := hk b e2 (block_lt_of_cell c0)
      refine ⟨b, o, e1, k1, fun i hi => ?_⟩
      obtain ⟨q, c', c0, c1, c2, c3, c4⟩ := e3 i hi
      exact ⟨q, c', cell_turn c0 k2, cell_turn c1 k2, cell_turn c2 k2, cell_turn c3 k2, ih (by omega) c4⟩
theorem RowOf.turn {P Q : Nat → Prop} {w w' : World} (hk : ∀ b, P b → b < w.heap.size → Q b ∧ w'.heap[b]? = w.heap[b]?) {d e : Nat} {p : Option Addr} {l : List Rep} (hde : d ≤ e) (h : RowOf P w (Rp P w d) p l) : RowOf Q w' (Rp Q w' e) p l := fun hne => by
  obtain ⟨b, o, e1, e2, e3⟩ := h hne
  have hpos : 0 < l.length := List.length_pos_iff.2 hne
  obtain ⟨_, _, c0, _⟩ := e3 0 hpos
  obtain ⟨k1, k2⟩ := hk b e2 (block_lt_of_cell c0)
  refine ⟨b, o, e1, k1, fun i hi => ?_⟩
  obtain ⟨q, c', c0, c1, c2, c3, c4⟩ := e3 i hi
  exact ⟨q, c', cell_turn c0 k2, cell_turn c1 k2, cell_turn c2 k2, cell_turn c3 k2, c4.turn hk hde⟩
theorem Rp.below {P : Nat → Prop} {w w' : World} {n : Nat} (hb : Below n w w') (hn : w.heap.size ≤ n) {d : Nat} {v : Value} {r : Rep} (h : Rp P w d v r) : Rp P w' d v r :=
  h.turn (fun b hp hlt => ⟨hp, hb.block b (by omega)⟩) (Nat.le_refl _)
theorem RowOf.below {P : Nat → Prop} {w w' : World} {n : Nat} (hb : Below n w w') (hn : w.heap.size ≤ n) {d : Nat} {p : Option Addr} {l : List Rep} (h : RowOf P w (Rp P w d) p l) : RowOf P w' (Rp P w' d) p l :=
  h.turn (fun b hp hlt => ⟨hp, hb.block b (by omega)⟩) (Nat.le_refl _)
/-- anywhere -/
abbrev All : Nat → Prop := fun _ => True
theorem Rp.all {P : Nat → Prop} {w : World} {d e : Nat} (hde : d ≤ e) {v : Value} {r : Rep} (h : Rp P w d v r) : Rp All w e v r := h.turn (fun _ _ _ => ⟨trivial, rfl⟩) hde
theorem RowOf.all {P : Nat → Prop} {w : World} {d e : Nat} (hde : d ≤ e) {p : Option Addr} {l : List Rep} (h : RowOf P w (Rp P w d) p l) : RowOf All w (Rp All w e) p l := h.turn (fun _ _ _ => ⟨trivial, rfl⟩) hde

end Go.Proofs.Ytjcfbnhmljlkpaa
