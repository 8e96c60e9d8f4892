/- Two dicts, each in its own blocks. -/
import Derived.Test.YtphegggekcjenaaDoorMethS
namespace Go.Proofs.YtphegggekcjenaaDoor
open Go.RowKit

/-- a whole struct is read: one step of a region that draws -/
theorem step_load {P : Program} {ops : Array Oper} {o : Oper} {a : Act} {w : World} {K : Act → World → Prop} {Q : Exit → Act → World → Prop} {E : Prop} (hw : Region.wanted o (yielded ops a.tmps) = true) (ty : TypeId) (x : Operand) (ho : o.op = .load ty x)
    (g : Nat) (hx : a.eval x = .pointer (some ⟨g, 0, none⟩)) (t : TypeId) (cs : Array Value) (fr : Nat × Nat) (d : TypeDesc) (hg : w.heap[g]? = some (.cells cs t fr))
    (hu : P.underlying ty = some d) (hd : (match d with | .struct _ | .array _ _ => true | _ => false) = true) (hi : (P.info? ty).map (·.size) = some cs.size)
    (h : K (a.put o.dst (.agg cs)) w) : if Region.wanted o (yielded ops a.tmps) = true then o.wp P a w K Q else E := by
  rw [if_pos hw]
  exact wp_load_row ty x ho g hx t cs fr d hg hu hd hi h
/-- where a dict lies -/
structure Frm {α : Type} (B : Nat) (Dq : World → Nat → (Nat → Prop) → DM α → Prop) : Prop where
  turn : ∀ {w w' : World} {b : Nat} {O : Nat → Prop} {D : DM α}, Dq w b O D → (∀ k, k < B ∨ O k → w'.heap[k]? = w.heap[k]?) → w.heap.size ≤ w'.heap.size → Dq w' b O D
  base : ∀ {w : World} {b : Nat} {O : Nat → Prop} {D : DM α}, Dq w b O D → B ≤ w.heap.size
  lt : ∀ {w : World} {b : Nat} {O : Nat → Prop} {D : DM α}, Dq w b O D → ∀ k, O k → k < w.heap.size
theorem Frm.below {α : Type} {B : Nat} {Dq : World → Nat → (Nat → Prop) → DM α → Prop} (M : Frm B Dq) {w w' : World} {b : Nat} {O : Nat → Prop} {D : DM α} (h : Dq w b O D) (k : Below w.heap.size w w') : Dq w' b O D := M.turn h (fun i hi => k.block i (by rcases hi with hi | hi; have := M.base h; omega; exact M.lt h i hi)) k.size
theorem MethI.frm {V : World → Prop} {B : Nat} {Dq : World → Nat → (Nat → Prop) → DM Int → Prop} (M : MethI V B Dq) : Frm B Dq := ⟨M.turn, M.base, M.lt⟩
theorem MethS.frm {V : World → Prop} {B : Nat} {Ds : World → Nat → (Nat → Prop) → DM Nm → Prop} (M : MethS V B Ds) : Frm B Ds := ⟨M.turn, M.base, M.lt⟩
/-- two dicts, apart -/
structure Two {α : Type} (Dq : World → Nat → (Nat → Prop) → DM α → Prop) (n : Nat) (O1 O2 : Nat → Prop) (W : World) (b1 b2 : Nat) (D F : DM α) : Prop where
  one : Dq W b1 O1 D
  two : Dq W b2 O2 F
  off1 : ∀ k, O1 k → n ≤ k
  off2 : ∀ k, O2 k → n ≤ k
  apart : ∀ k, O1 k → ¬ O2 k
theorem Two.flip {α : Type} {Dq : World → Nat → (Nat → Prop) → DM α → Prop} {n : Nat} {O1 O2 : Nat → Prop} {W : World} {b1 b2 : Nat} {D F : DM α} (h : Two Dq n O1 O2 W b1 b2 D F) : Two Dq n O2 O1 W b2 b1 F D := ⟨h.two, h.one, h.off2, h.off1, fun k hk h1 => h.apart k h1 hk⟩
theorem Two.below {α : Type} {B : Nat} {Dq : World → Nat → (Nat → Prop) → DM α → Prop} (M : Frm B Dq) {n : Nat} {O1 O2 : Nat → Prop} {W W' : World} {b1 b2 : Nat} {D F : DM α} (h : Two Dq n O1 O2 W b1 b2 D F) (k : Below W.heap.size W W') : Two Dq n O1 O2 W' b1 b2 D F := ⟨M.below h.one k, M.below h.two k, h.off1, h.off2, h.apart⟩
/-- the first one has turned -/
theorem Two.fst {α : Type} {B : Nat} {Dq : World → Nat → (Nat → Prop) → DM α → Prop} (M : Frm B Dq) {n : Nat} {O1 O2 : Nat → Prop} {W W' : World} {b1 b2 : Nat} {D F D' : DM α} (h : Two Dq n O1 O2 W b1 b2 D F) (hB : B ≤ n) (hn : n ≤ W.heap.size) {O' : Nat → Prop} (h1 : Dq W' b1 O' D') (hg : Grew W O1 O') (hk : Keep (Off O1) W W') : Two Dq n O' O2 W' b1 b2 D' F :=
  ⟨h1, M.turn h.two (fun k hk' => hk.block k (by rcases hk' with g | g; have := M.base h.two; omega; exact M.lt h.two k g) (fun g => by rcases hk' with g' | g'; have := h.off1 k g; omega; exact h.apart k g g')) hk.size,
    fun k hk' => by rcases hg k hk' with g | g; exact h.off1 k g; omega, h.off2, fun k hk' h2 => by
      rcases hg k hk' with g | g
      · exact h.apart k g h2
      · have := M.lt h.two k h2; omega⟩
theorem Two.snd {α : Type} {B : Nat} {Dq : World → Nat → (Nat → Prop) → DM α → Prop} (M : Frm B Dq) {n : Nat} {O1 O2 : Nat → Prop} {W W' : World} {b1 b2 : Nat} {D F F' : DM α} (h : Two Dq n O1 O2 W b1 b2 D F) (hB : B ≤ n) (hn : n ≤ W.heap.size) {O' : Nat → Prop} (h1 : Dq W' b2 O' F') (hg : Grew W O2 O') (hk : Keep (Off O2) W W') : Two Dq n O1 O' W' b1 b2 D F' :=
  (h.flip.fst M hB hn h1 hg hk).flip
/-- two new ones -/
theorem Two.new {α : Type} {B : Nat} {Dq : World → Nat → (Nat → Prop) → DM α → Prop} (M : Frm B Dq) {w w1 w2 : World} {O1 O2 : Nat → Prop} {b1 b2 : Nat} {D F : DM α} (h1 : Dq w1 b1 O1 D) (o1 : ∀ k, O1 k → w.heap.size ≤ k) (k1 : Below w.heap.size w w1) (h2 : Dq w2 b2 O2 F) (o2 : ∀ k, O2 k → w1.heap.size ≤ k) (k2 : Below w1.heap.size w1 w2) : Two Dq w.heap.size O1 O2 w2 b1 b2 D F :=
  ⟨M.below h1 k2, h2, o1, fun k hk => Nat.le_trans k1.size (o2 k hk), fun k hk hk2 => by have := M.lt h1 k hk; have := o2 k hk2; omega⟩
/-- where numbers lie -/
def Nums (w : World) (p : Option Addr) (l : List Int) : Prop := l ≠ [] → ∃ g o, p = some ⟨g, o, none⟩ ∧ ∀ i (h : i < l.length), w.cell? ⟨g, o + i, none⟩ = some (.int .i64 l[i])
theorem doD_L {D F : DM Int} (o : OpI) (h : F.L = D.L) : (doD F o).L = (doD D o).L := by
  unfold doD
  split
  · rw [putD_L, putD_L, h]
  · split
    · rw [delD_L, delD_L, h]
    · split
      · exact h
      · exact h

end Go.Proofs.YtphegggekcjenaaDoor
