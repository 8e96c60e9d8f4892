/- Rows of letters in their places, each leading to the next. -/
import Derived.Test.YtjcfbnhmljlkpaaLkMap
import Derived.Test.YtjcfbnhmljlkpaaLkOwn3
namespace Go.Proofs.Ytjcfbnhmljlkpaa
open Go.RowKit

/-- a letter in its place -/
structure Pc where
  b : Nat
  x : Lt
  ap : Option Addr
  ac : Nat
  rp : Option Addr
  rc : Nat
/-- a place's cells; n leads to the next -/
def plC (x : Lt) (ap : Option Addr) (ac : Nat) (rp : Option Addr) (rc : Nat) (n : Option Addr) : Array Value :=
  #[.int .i64 x.kind, .int .i64 x.number, .int .i64 x.slot, .int .i64 x.ends, txt x.key, txt x.text, .slice ap x.args.length ac, .int .i64 x.reply.kind, .int .i64 x.reply.int, txt x.reply.text, .slice rp x.reply.list.length rc, .bool x.good, .int .i64 x.asking, .pointer n]
def fstA : List Pc → Option Addr
  | [] => none
  | p :: _ => some ⟨p.b, 0, none⟩
def lstA : List Pc → Option Addr
  | [] => none
  | [p] => some ⟨p.b, 0, none⟩
  | _ :: q :: l => lstA (q :: l)
def Chain (w : World) : List Pc → Prop
  | [] => True
  | p :: l => w.heap[p.b]? = some (.cells (plC p.x p.ap p.ac p.rp p.rc (fstA l)) 65 (0, 0)) ∧ Chain w l
def rowOf (l : List Pc) : Value := .agg (rowC (fstA l) (lstA l) l.length)
theorem Chain.turn {w w' : World} : ∀ {l : List Pc}, Chain w l → (∀ p ∈ l, w'.heap[p.b]? = w.heap[p.b]?) → Chain w' l
  | [], _, _ => trivial
  | p :: l, h, hk => ⟨(hk p (by simp)).trans h.1, h.2.turn (fun q hq => hk q (by simp [hq]))⟩
theorem Chain.lt {w : World} : ∀ {l : List Pc}, Chain w l → ∀ p ∈ l, p.b < w.heap.size
  | p :: l, h, q, hq => by
    rcases List.mem_cons.1 hq with rfl | hq
    · exact (Array.getElem?_eq_some_iff.1 h.1).1
    · exact Chain.lt h.2 q hq
theorem Chain.shape {w : World} : ∀ {l : List Pc}, Chain w l → ∀ p ∈ l, ∃ n, w.heap[p.b]? = some (.cells (plC p.x p.ap p.ac p.rp p.rc n) 65 (0, 0))
  | p :: l, h, q, hq => by
    rcases List.mem_cons.1 hq with rfl | hq
    · exact ⟨_, h.1⟩
    · exact Chain.shape h.2 q hq
theorem lstA_some : ∀ {l : List Pc}, l ≠ [] → ∃ p ∈ l, lstA l = some ⟨p.b, 0, none⟩ ∧ ∀ l', lstA (l' ++ l) = lstA l
  | [], h => absurd rfl h
  | [p], _ => by
    refine ⟨p, by simp, rfl, fun l' => ?_⟩
    induction l' with
    | nil => rfl
    | cons a l' ih =>
      cases l' with
      | nil => rfl
      | cons b l' => exact ih
  | a :: p :: l, _ => by
    obtain ⟨q, hq, e, h⟩ := lstA_some (l := p :: l) (by simp)
    refine ⟨q, by simp [List.mem_cons.1 hq], e, fun l' => ?_⟩
    have h1 := h (l' ++ [a])
    rw [List.append_assoc] at h1
    exact h1
theorem lstA_push (l : List Pc) (p : Pc) : lstA (l ++ [p]) = some ⟨p.b, 0, none⟩ := by
  obtain ⟨q, hq, e, h⟩ := lstA_some (l := [p]) (by simp)
  rw [h l, e, List.mem_singleton.1 hq]
theorem lstA_tail {p q : Pc} {l : List Pc} : lstA (p :: q :: l) = lstA (q :: l) := rfl
theorem fstA_push {l : List Pc} (p : Pc) (h : l ≠ []) : fstA (l ++ [p]) = fstA l := by
  cases l with
  | nil => exact absurd rfl h
  | cons a l => rfl
/-- the last of a row leads to one more -/
theorem Chain.push {w : World} {p : Pc} (hp : w.heap[p.b]? = some (.cells (plC p.x p.ap p.ac p.rp p.rc none) 65 (0, 0))) : ∀ {l : List Pc} {z : Nat}, Chain w l → (l.map Pc.b).Nodup → p.b ∉ l.map Pc.b → lstA l = some ⟨z, 0, none⟩ → Chain (w.setCell ⟨z, 13, none⟩ (.pointer (some ⟨p.b, 0, none⟩))) (l ++ [p])
  | [], z, _, _, _, hz => by cases hz
  | [q], z, h, _, hn, hz => by
    injection hz with hz
    injection hz with hz
    subst hz
    have hne : p.b ≠ q.b := fun e => hn (by simp [e])
    refine ⟨?_, ?_, trivial⟩
    · rw [heap_setCell_same w q.b 13 _ _ _ h.1]
      rfl
    · rw [heap_setCell_other _ _ _ _ hne]
      exact hp
  | q :: r :: l, z, h, hd, hn, hz => by
    have hd' := List.nodup_cons.1 hd
    obtain ⟨y, hy, e, -⟩ := lstA_some (l := r :: l) (by simp)
    have hz' : lstA (r :: l) = some ⟨z, 0, none⟩ := hz
    rw [hz'] at e
    injection e with e
    injection e with e
    have hne : q.b ≠ z := fun e2 => hd'.1 (by rw [e2, e]; exact List.mem_map.2 ⟨y, hy, rfl⟩)
    refine ⟨?_, Chain.push hp (l := r :: l) h.2 hd'.2 (fun hc => hn (by simp only [List.map_cons, List.mem_cons] at hc ⊢; exact .inr hc)) hz'⟩
    rw [heap_setCell_other _ _ _ _ hne]
    exact h.1
/-- the row's block -/
def RowB (w : World) (rb : Nat) (l : List Pc) : Prop := w.heap[rb]? = some (.cells (rowC (fstA l) (lstA l) l.length) 63 (0, 0))
theorem RowB.facts {w : World} {rb : Nat} {l : List Pc} (h : RowB w rb l) : w.cell? ⟨rb, 0, none⟩ = some (.pointer (fstA l)) ∧ w.cell? ⟨rb, 1, none⟩ = some (.pointer (lstA l)) ∧ w.cell? ⟨rb, 2, none⟩ = some (.int .i64 l.length) :=
  ⟨cell_of_row w rb 0 _ _ _ h, cell_of_row w rb 1 _ _ _ h, cell_of_row w rb 2 _ _ _ h⟩
theorem RowB.froz {w : World} {rb : Nat} {l : List Pc} (h : RowB w rb l) : w.frozen? ⟨rb, 0, none⟩ = false ∧ w.frozen? ⟨rb, 1, none⟩ = false ∧ w.frozen? ⟨rb, 2, none⟩ = false :=
  ⟨frozen_of_row w rb 0 _ _ h, frozen_of_row w rb 1 _ _ h, frozen_of_row w rb 2 _ _ h⟩

end Go.Proofs.Ytjcfbnhmljlkpaa
