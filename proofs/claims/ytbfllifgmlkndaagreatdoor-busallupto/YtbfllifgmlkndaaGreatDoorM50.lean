/- BlBa. -/
import Derived.Test.YtbfllifgmlkndaaGreatDoorM48
import Derived.Test.YtbfllifgmlkndaaGreatDoorM49
namespace Go.Proofs.YtbfllifgmlkndaaGreatDoor
open Go.RowKit
open Slot

/-- the law's way: a bus of its own -/
structure Ba (w wr : World) (b vb me : Nat) (F : Nat → Prop) (v : Vw) (O : List (Int × Bs)) (k : Nat) : Prop where
  bus : BB 7 wr F b vb v O
  ty : Ty wr F
  low : ∀ x, F x → w.heap.size ≤ x
  ok : v.Ok k
  me_ : v.self = me
  ol : O.length ≤ 2 * k
  bel : Below w.heap.size w wr
theorem Ba.call {w wr w' : World} {b vb me : Nat} {F : Nat → Prop} {v : Vw} {O : List (Int × Bs)} {k : Nat} (h : Ba w wr b vb me F v O k) (hb : Below wr.heap.size wr w') : Ba w w' b vb me F v O k :=
  ⟨h.bus.call hb, h.ty.call hb, h.low, h.ok, h.me_, h.ol, h.bel.trans (hb.mono h.bel.size)⟩
theorem Ba.drew {w wr : World} {b vb me : Nat} {F : Nat → Prop} {v : Vw} {O : List (Int × Bs)} {k : Nat} (h : Ba w wr b vb me F v O k) : Ba w wr.drew b vb me F v O k := h.call (Below.refl _ _).drew
/-- behind a call that leaves a bus -/
theorem Ba.step {w wr w' : World} {b vb me : Nat} {F F' : Nat → Prop} {v v' : Vw} {O O' : List (Int × Bs)} {k : Nat} (h : Ba w wr b vb me F v O k) (hB : BB 7 w' F' b vb v' O') (hK : Kp F F' wr w') (hv : v'.Ok (k + 1)) (hm : v'.self = v.self) (hl : O'.length ≤ O.length + 2) :
    ∃ F0, Ba w w' b vb me F0 v' O' (k + 1) ∧ Kp F F0 wr w' ∧ ∀ x, F0 x → F' x := by
  obtain ⟨F0, h1, h2, h3⟩ := bb_min hB
  have hk := hK.less h2
  have hol := h.ol
  exact ⟨F0, ⟨h1, h3, fun x hx => (hk.foot x hx).elim (h.low x) (fun c => Nat.le_trans h.bel.size c), hv, hm.trans h.me_, by omega, h.bel.trans (hk.below h.low h.bel.size)⟩, hk, h2⟩
theorem Ba.does {w wr w' : World} {b vb me : Nat} {F : Nat → Prop} {v v2 : Vw} {O O2 : List (Int × Bs)} {me2 k : Nat} {o : OpB} {e : Ending} (h : Ba w wr b vb me F v O k) (hd : DoesP 7 b vb F v O me2 v2 O2 o wr e w') :
    (∃ x, e = .returned x) ∧ ∃ F' v' O', Ba w w' b vb me F' v' O' (k + 1) ∧ Kp F F' wr w' := by
  obtain ⟨RC', c, rfl, ⟨F', h1, -, h3⟩, -⟩ := hd
  obtain ⟨F0, k1, k2, -⟩ := h.step h1 h3 (bV_ok h.ok o) (bV_self v o) (bO_len v O o)
  exact ⟨⟨_, rfl⟩, F0, _, _, k1, k2⟩
theorem ba_new {w wr : World} {b vb me : Nat} {F : Nat → Prop} {v : Vw} (hB : BB 7 wr F b vb v []) (hF : ∀ x, F x → w.heap.size ≤ x) (hW : Below w.heap.size w wr) (hO : v.Ok 0) (hm : v.self = me) : ∃ F', Ba w wr b vb me F' v [] 0 := by
  obtain ⟨F0, h1, h2, h3⟩ := bb_min hB
  exact ⟨F0, h1, h3, fun x hx => hF x (h2 x hx), hO, hm, by simp, hW⟩
/-- a view of the document's that is nothing but zeros -/
def vZ : Vw := ⟨0, fun _ => 0, fun _ => 64, 0⟩
theorem vZ_ok : vZ.Ok 900000 := ⟨by decide, fun _ => Nat.le_refl _, fun _ => Nat.le_refl _, Nat.zero_le _⟩
theorem nd_zero {w : World} {g : Nat} (h : Nd w g (fun _ => 0) (fun _ _ => false)) : Nd w g vZ.ep vZ.cl := by
  obtain ⟨C, h1, h2⟩ := h
  refine ⟨C, h1, fun n hn => ?_⟩
  obtain ⟨h3, h4⟩ := h2 n hn
  have e : vZ.cl n = fun _ => false := by
    funext s
    show ((64 : Nat) == n) = false
    exact beq_eq_false_iff_ne.2 (by omega)
  rw [e]
  exact ⟨h3, h4⟩
theorem Ba.dk {w wr : World} {b vb me g : Nat} {F : Nat → Prop} {v : Vw} {O : List (Int × Bs)} {k : Nat} (h : Ba w wr b vb me F v O k) (hE : Env w) (hk : k ≤ 1000) (hN : Nd wr g (fun _ => 0) (fun _ _ => false)) : Dk 7 b vb F v O 0 g 0 vZ (.slice none 0 0) [] wr := by
  have hol := h.ol
  exact ⟨h.bus, h.ty, hE.below h.bel hE.room, Nat.le_refl _, h.ok.mono (by omega), by omega, rfl, vZ_ok, nd_zero hN, World.ownsRow_nil _ _ _ _, by simp⟩
theorem wp_mkNodes {o : Oper} {a : Act} {w : World} {K : Act → World → Prop} {Q : Exit → Act → World → Prop} (ho : o.op = .makeSlice 32 (.const (.int .i64 64)) (.const (.int .i64 64)))
    (h : K (a.put o.dst (.slice (some ⟨w.heap.size, 0, none⟩) 64 64)) (w.alloc (.cells madeN 79))) : o.wp Tryz.prog a w K Q := by
  unfold Oper.wp execOp
  simp only [ho, Act.eval, Sem.run_bind, make_nodes w, Result.andThen_ok]
  exact h
def placesRV : Array (Nat × Nat) := #[(0, 1), (1, 1), (2, 1)]
theorem builtRV_any (parts : List (Nat × Value)) : Tryz.prog.built 34 parts = Instr.fill (fun i => placesRV[i]?) #[.int .i64 0, .slice none 0 0, .int .u64 0] parts := by kernel_rfl
theorem built_rv (g : Nat) : Tryz.prog.built 34 [(1, .slice (some ⟨g, 0, none⟩) 64 64)] = some (rvc 0 g 64 0) := by
  rw [builtRV_any]
  rfl
theorem wp_buildRV {o : Oper} {a : Act} {w : World} {K : Act → World → Prop} {Q : Exit → Act → World → Prop} (x : Operand) (ho : o.op = .build 34 #[(1, x)]) (u : Value) (RC : Array Value) (hb : Tryz.prog.built 34 [(1, u)] = some RC) (hx : a.eval x = u)
    (h : K (a.put o.dst (.agg RC)) w) : o.wp Tryz.prog a w K Q := by
  have e : (#[(1, x)].map fun (i, x) => (i, a.eval x)).toList = [(1, u)] := by simp [hx]
  exact wp_build 34 _ ho (by rw [e, hb]; rfl) (by rw [e, hb]; exact h)
theorem OutB.kp {w w' : World} {F F' : Nat → Prop} {a : Option Addr} {L : List (Int × Bs)} (h : OutB w a L) (hk : Kp F F' w w') (hn : ∀ x, a = some x → ¬ F x.block) : OutB w' a L := fun hne => by
  obtain ⟨x, o, rfl, h1, h2⟩ := h hne
  have hcx := hk.block x h1 (hn _ rfl)
  refine ⟨x, o, rfl, Nat.lt_of_lt_of_le h1 hk.like.size, fun j hj => ?_⟩
  obtain ⟨q1, q2⟩ := h2 j hj
  exact ⟨(World.cell?_of_block hcx).trans q1, (World.cell?_of_block hcx).trans q2⟩
theorem OutB.call {w w' : World} {a : Option Addr} {L : List (Int × Bs)} (h : OutB w a L) (hb : Below w.heap.size w w') : OutB w' a L :=
  h.kp (F := fun _ => False) (F' := fun _ => False) (Kp.of_below hb (Nat.le_refl _)) (fun _ _ c => c)
theorem vb_kp {w w' : World} {F F' : Nat → Prop} {c : Nat} {v : Vw} (h : VB w c v) (hk : Kp F F' w w') (hc : ¬ F c) : VB w' c v := h.turn (hk.block c h.lt hc)
/-- a row that was handed on: apart from the bus -/
structure Ou (w : World) (a : Option Addr) (L : List (Int × Bs)) (F : Nat → Prop) : Prop where
  out : OutB w a L
  far : ∀ x, a = some x → x.block < w.heap.size ∧ ¬ F x.block
theorem Ou.kp {w w' : World} {a : Option Addr} {L : List (Int × Bs)} {F F' : Nat → Prop} (h : Ou w a L F) (hk : Kp F F' w w') : Ou w' a L F' :=
  ⟨h.out.kp hk (fun x e => (h.far x e).2), fun x e => ⟨Nat.lt_of_lt_of_le (h.far x e).1 hk.like.size, fun c => (hk.foot _ c).elim (h.far x e).2 (fun d => by have := (h.far x e).1; omega)⟩⟩
theorem Ou.call {w w' : World} {a : Option Addr} {L : List (Int × Bs)} {F : Nat → Prop} (h : Ou w a L F) (hb : Below w.heap.size w w') : Ou w' a L F := h.kp (Kp.of_below hb (Nat.le_refl _))
theorem ou_new {B b vb : Nat} {w w' : World} {F F' : Nat → Prop} {v : Vw} {O L : List (Int × Bs)} {a : Option Addr} (hB : BB B w F b vb v O) (hk : Kp F F' w w') (h1 : OutB w' a L) (h2 : ∀ x, a = some x → F x.block) (h3 : ∀ x, a = some x → ¬ F' x.block) : Ou w' a L F' :=
  ⟨h1, fun x e => ⟨Nat.lt_of_lt_of_le (hB.lt _ (h2 x e)) hk.like.size, h3 x e⟩⟩
theorem Ou.less {w : World} {a : Option Addr} {L : List (Int × Bs)} {F F' : Nat → Prop} (h : Ou w a L F) (hf : ∀ x, F' x → F x) : Ou w a L F' := ⟨h.out, fun x e => ⟨(h.far x e).1, fun c => (h.far x e).2 (hf _ c)⟩⟩
/-- what is taken twice -/
theorem bTake_self {v v' : Vw} (h : v'.self = v.self) (s : Bs) : bTake v' s = bTake v s := by unfold bTake; rw [h]
theorem bView_self (v : Vw) (s : Bs) : (bView v s).self = v.self := by
  unfold bView
  split
  · exact take_self _ _
  · rfl
theorem bView_twice {v : Vw} {k : Nat} (h : v.Ok k) (s : Bs) : bView (bView v s) s = bView v s ∧ bOut (bView v s) s = bOut v s := by
  have e := bTake_self (bView_self v s) s
  cases hT : bTake v s with
  | false =>
    have hv : bView v s = v := by unfold bView; rw [hT]; rfl
    rw [hv, hv]
    exact ⟨rfl, rfl⟩
  | true =>
    rw [hT] at e
    have hv : bView v s = takeV v (decPk s) := by unfold bView; rw [if_pos hT]
    rw [hv] at e ⊢
    refine ⟨?_, ?_⟩
    · unfold bView
      rw [if_pos e, take_twice h]
    · unfold bOut
      rw [if_pos e, if_pos hT, answ_twice h]
theorem bTake_no {v : Vw} {s : Bs} (h : bTake v s = false) : bView v s = v ∧ bOut v s = [] := by
  unfold bView bOut
  rw [h]
  exact ⟨rfl, rfl⟩

end Go.Proofs.YtbfllifgmlkndaaGreatDoor
