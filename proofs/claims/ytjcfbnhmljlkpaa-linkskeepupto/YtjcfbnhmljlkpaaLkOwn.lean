/- Lists of replies are copied at any depth. -/
import Derived.Test.YtjcfbnhmljlkpaaLkClone
namespace Go.Proofs.Ytjcfbnhmljlkpaa
open Go.RowKit

/-- so small at any depth -/
def SmL (l : List Rep) : Prop := l.length ≤ 50 ∧ ∀ r ∈ l, ∃ k, Sm k r
theorem SmL.of {k : Nat} {r : Rep} (h : Sm k r) : SmL r.list := by
  cases k with
  | zero => exact h.elim
  | succ k =>
    refine ⟨h.1, fun x hx => ?_⟩
    obtain ⟨i, hi, rfl⟩ := List.getElem_of_mem hx
    exact ⟨k, h.2 i hi⟩
/-- a row of replies that is being copied: up to i its lists are own -/
structure OL (g : Nat) (l : List Rep) (d : Nat) (f f' : Nat → Option Addr × Nat) (i : Nat) (W2 W : World) : Prop where
  blk : ∃ Z, W.heap[g]? = some (.cells Z 31 (0, 0))
  cells : ∀ j (h : j < l.length), W.cell? ⟨g, j * 4, none⟩ = some (.int .i64 l[j].kind) ∧ W.cell? ⟨g, j * 4 + 1, none⟩ = some (.int .i64 l[j].int) ∧ W.cell? ⟨g, j * 4 + 2, none⟩ = some (.string ⟨l[j].text.toArray⟩) ∧ W.cell? ⟨g, j * 4 + 3, none⟩ = some (.slice (f' j).1 l[j].list.length (f' j).2)
  done : ∀ j (h : j < l.length), j < i → ∃ dd, dd + 1 ≤ d ∧ RowOf (fun k => W2.heap.size ≤ k) W (Rp (fun k => W2.heap.size ≤ k) W dd) (f' j).1 l[j].list
  todo : ∀ j, i ≤ j → f' j = f j
  like : Below 0 W2 W
  block : ∀ k, k < W2.heap.size → k ≠ g → W.heap[k]? = W2.heap[k]?
theorem OL.glt {g : Nat} {l : List Rep} {d : Nat} {f f' : Nat → Option Addr × Nat} {i : Nat} {W2 W : World} (h : OL g l d f f' i W2 W) : g < W.heap.size := by
  obtain ⟨Z, hZ⟩ := h.blk
  exact (Array.getElem?_eq_some_iff.1 hZ).1
theorem OL.froz {g : Nat} {l : List Rep} {d : Nat} {f f' : Nat → Option Addr × Nat} {i : Nat} {W2 W : World} (h : OL g l d f f' i W2 W) (k : Nat) : W.frozen? ⟨g, k, none⟩ = false := by
  obtain ⟨Z, hZ⟩ := h.blk
  exact frozen_of_row W g k Z _ hZ
/-- the next one's list is put -/
theorem OL.step {g : Nat} {l : List Rep} {d : Nat} {f f' : Nat → Option Addr × Nat} {i : Nat} {W2 W W' : World} (h : OL g l d f f' i W2 W) (hg : g < W2.heap.size) (hi : i < l.length) (hb : Below W.heap.size W W') {q : Option Addr} {c dd : Nat} (hd : dd + 1 ≤ d)
    (hr : RowOf (fun k => W.heap.size ≤ k) W' (Rp (fun k => W.heap.size ≤ k) W' dd) q l[i].list) :
    ∃ f'', OL g l d f f'' (i + 1) W2 (W'.setCell ⟨g, i * 4 + 3, none⟩ (.slice q l[i].list.length c)) := by
  obtain ⟨Z, hZ⟩ := h.blk
  have hgW := h.glt
  have hs := h.like.size
  have hb0 := hb.block g hgW
  have hZ' : W'.heap[g]? = some (.cells Z 31 (0, 0)) := hb0.trans hZ
  have turn : ∀ (o : Nat) (v : Value), o ≠ i * 4 + 3 → W.cell? ⟨g, o, none⟩ = some v → (W'.setCell ⟨g, i * 4 + 3, none⟩ (.slice q l[i].list.length c)).cell? ⟨g, o, none⟩ = some v := fun o v ho hv => by
    have hne : (⟨g, i * 4 + 3, none⟩ : Addr) ≠ ⟨g, o, none⟩ := fun e => by
      injection e with e1 e2 e3
      omega
    exact (World.cell?_setCell_other _ _ _ _ hne).trans (cell_turn hv hb0)
  refine ⟨fun j => if j = i then (q, c) else f' j, ⟨_, heap_setCell_same W' g _ Z _ _ hZ'⟩, fun j hj => ?_, fun j hj hji => ?_, fun j hj => ?_, ?_, fun k hk hkg => ?_⟩
  · obtain ⟨c0, c1, c2, c3⟩ := h.cells j hj
    refine ⟨turn _ _ (by omega) c0, turn _ _ (by omega) c1, turn _ _ (by omega) c2, ?_⟩
    by_cases hji : j = i
    · subst hji
      rw [if_pos rfl]
      have c3' := cell_turn c3 hb0
      exact World.cell?_setCell_same _ _ _ c3'
    · rw [if_neg hji]
      exact turn _ _ (by omega) c3
  · by_cases hji2 : j = i
    · subst hji2
      simp only [if_true]
      exact ⟨dd, hd, hr.turn (fun k hk _ => ⟨by omega, heap_setCell_other _ _ _ _ (fun e => by have : k = g := e; omega)⟩) (Nat.le_refl _)⟩
    · simp only [if_neg hji2]
      obtain ⟨d1, h1, h2⟩ := h.done j hj (by omega)
      exact ⟨d1, h1, h2.turn (fun k hk hlt => ⟨hk, (heap_setCell_other _ _ _ _ (fun e => by have : k = g := e; omega)).trans (hb.block k hlt)⟩) (Nat.le_refl _)⟩
  · simp only [if_neg (show ¬ j = i by omega)]
    exact h.todo j (by omega)
  · exact (h.like.trans (hb.mono (Nat.zero_le _))).setCell (Nat.zero_le _) _
  · rw [heap_setCell_other _ _ _ _ hkg, hb.block k (by omega)]
    exact h.block k hk hkg
theorem OL.start {N0 g : Nat} {l : List Rep} {d c : Nat} {f : Nat → Option Addr × Nat} {W : World} (h : W.ownsRow N0 31 4 (.slice (some ⟨g, 0, none⟩) l.length c) l.length (flatQ l f 0)) : OL g l d f f 0 W W := by
  refine ⟨?_, fun j hj => ?_, fun j _ hj => absurd hj (Nat.not_lt_zero j), fun _ _ => rfl, Below.refl _ _, fun _ _ _ => rfl⟩
  · rcases h.2 with ⟨h1, _⟩ | ⟨g', cap, cur, h1, h2, h3, _⟩
    · cases h1
    · injection h1 with e1
      injection e1 with e1
      injection e1 with e1
      subst e1
      exact ⟨cur, h3⟩
  · have at4 : ∀ k u, k < 4 → (repF l[j] (f j))[k]? = some u → W.cell? ⟨g, j * 4 + k, none⟩ = some u := fun k u hk hu => by
      have e := flatQ_at f l 0 j hj k hk
      rw [Nat.zero_add, hu] at e
      have := World.ownsRow.cells h (g := g) rfl (j * 4 + k) _ e
      rw [Go.WideShapes.add_plain, Nat.zero_add] at this
      exact this
    exact ⟨at4 0 _ (by decide) rfl, at4 1 _ (by decide) rfl, at4 2 _ (by decide) rfl, at4 3 _ (by decide) rfl⟩
/-- all are put -/
theorem OL.fin {g : Nat} {l : List Rep} {d : Nat} {f f' : Nat → Option Addr × Nat} {W2 W : World} {N0 : Nat} (h : OL g l d f f' l.length W2 W) (hN : N0 ≤ g) (hN2 : N0 ≤ W2.heap.size) (hF : ∀ r ∈ l, Fit r) : RowOf (fun k => N0 ≤ k) W (Rp (fun k => N0 ≤ k) W d) (some ⟨g, 0, none⟩) l := by
  intro _
  refine ⟨g, 0, rfl, hN, fun i hi => ?_⟩
  obtain ⟨c0, c1, c2, c3⟩ := h.cells i hi
  obtain ⟨dd, hd, hr⟩ := h.done i hi hi
  rw [Nat.zero_add]
  refine ⟨(f' i).1, (f' i).2, c0, c1, c2, c3, ?_⟩
  have h1 : Rp (fun k => N0 ≤ k) W (dd + 1) (.agg #[.int .i64 l[i].kind, .int .i64 l[i].int, .string ⟨l[i].text.toArray⟩, .slice (f' i).1 l[i].list.length (f' i).2]) l[i] :=
    ⟨(f' i).1, (f' i).2, rfl, hF _ (List.getElem_mem hi), hr.turn (fun k hk _ => ⟨Nat.le_trans hN2 hk, rfl⟩) (Nat.le_refl _)⟩
  exact h1.turn (fun k hk _ => ⟨hk, rfl⟩) hd
def OwnLP (w : World) (l : List Rep) (d : Nat) (e : Ending) (w' : World) : Prop :=
  ∃ q c, e = .returned (.slice q l.length c) ∧ Hid (RowOf (fun k => w.heap.size ≤ k) w' (Rp (fun k => w.heap.size ≤ k) w' d) q l ∧ Below w.heap.size w w')
def OwnAt (d : Nat) : Prop := ∀ (p : Option Addr) (l : List Rep) (c : Nat) (w : World), RowOf All w (Rp All w d) p l → SmL l → Calls Try.prog 34 #[.slice p l.length c] w (OwnLP w l d)

end Go.Proofs.Ytjcfbnhmljlkpaa
