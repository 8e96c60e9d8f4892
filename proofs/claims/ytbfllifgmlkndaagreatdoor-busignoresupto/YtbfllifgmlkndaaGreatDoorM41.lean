/- BlMem. -/
import Derived.Test.YtbfllifgmlkndaaGreatDoorM40
import Derived.Test.YtbfllifgmlkndaaGreatDoorM35
import Derived.Test.YtbfllifgmlkndaaGreatDoorM30
namespace Go.Proofs.YtbfllifgmlkndaaGreatDoor
open Go.RowKit
open Slot

/-- a bus' blocks are of its own types -/
def Ty (w : World) (F : Nat → Prop) : Prop := ∀ k, F k → ∃ C t fr, w.heap[k]? = some (.cells C t fr) ∧ (t = 77 ∨ t = 109 ∨ t = 69)
theorem Ty.call {w w' : World} {F : Nat → Prop} (h : Ty w F) (hb : Below w.heap.size w w') : Ty w' F := fun k hk => by
  obtain ⟨C, t, fr, h1, h2⟩ := h k hk
  exact ⟨C, t, fr, (hb.block k (Array.getElem?_eq_some_iff.1 h1).1).trans h1, h2⟩
/-- no more blocks than there must be -/
theorem bb_min {B : Nat} {w : World} {F : Nat → Prop} {b vb : Nat} {v : Vw} {O : List (Int × Bs)} (h : BB B w F b vb v O) : ∃ F0, BB B w F0 b vb v O ∧ (∀ k, F0 k → F k) ∧ Ty w F0 := by
  obtain ⟨rv, h1, h2, h3, h4, h5⟩ := h.ex
  refine ⟨fun k => k = b ∨ k = vb ∨ rv.ownBlock = some k, ⟨⟨rv, h1, h2, h3, .inr (.inl rfl), fun g e => .inr (.inr e)⟩, .inl rfl, fun k hk => ?_, fun k hk => ?_⟩, fun k hk => ?_, fun k hk => ?_⟩
  · rcases hk with rfl | rfl | e
    · exact h.lt _ h.own
    · exact h.lt _ h4
    · exact h.lt _ (h5 k e)
  · rcases hk with rfl | rfl | e
    · exact h.low _ h.own
    · exact h.low _ h4
    · exact h.low _ (h5 k e)
  · rcases hk with rfl | rfl | e
    · exact h.own
    · exact h4
    · exact h5 k e
  · rcases hk with rfl | rfl | e
    · exact ⟨_, _, _, h1, .inl rfl⟩
    · obtain ⟨VC, hv1, -⟩ := h2
      exact ⟨_, _, _, hv1, .inr (.inl rfl)⟩
    · rcases h3.2 with ⟨hv, -⟩ | ⟨gg, cp, cur', hv, hg, hh, r⟩
      · rw [hv] at e; cases e
      · rw [hv] at e
        obtain rfl : gg = k := Option.some.inj (show some gg = some k from e)
        exact ⟨_, _, _, hh, .inr (.inr rfl)⟩
theorem Kp.less {F F' F0 : Nat → Prop} {w w' : World} (h : Kp F F' w w') (h0 : ∀ k, F0 k → F' k) : Kp F F0 w w' := ⟨h.like, h.block, fun k hk => h.foot k (h0 k hk)⟩
theorem Kp.setRow {F F' : Nat → Prop} {w w' : World} (h : Kp F F' w w') {x : Nat} (hx : w.heap.size ≤ x) (C : Array Value) : Kp F F' w (w'.setRow x C) := by
  have hb := below_setRow (g := x) (h.like.mono (Nat.le_refl _)) (Nat.zero_le _) C
  exact ⟨hb, fun k hk hf => (setRow_other _ _ _ _ (by omega)).trans (h.block k hk hf), h.foot⟩
theorem Kp.setCell {F F' : Nat → Prop} {w w' : World} (h : Kp F F' w w') {x j : Nat} (hx : w.heap.size ≤ x) (u : Value) : Kp F F' w (w'.setCell ⟨x, j, none⟩ u) := by
  have hb := Below.setCell h.like (p := ⟨x, j, none⟩) (Nat.zero_le _) u
  exact ⟨hb, fun k hk hf => (Below.heap_setCell _ _ _ _ (by show k ≠ x; omega)).trans (h.block k hk hf), h.foot⟩
theorem BB.same {B : Nat} {w w' : World} {F : Nat → Prop} {b vb : Nat} {v : Vw} {O : List (Int × Bs)} (h : BB B w F b vb v O) (hs : w.heap.size ≤ w'.heap.size) (hk : ∀ k, F k → w'.heap[k]? = w.heap[k]?) : BB B w' F b vb v O := by
  obtain ⟨rv, h1, h2, h3, h4, h5⟩ := h.ex
  exact ⟨⟨rv, (hk _ h.own).trans h1, h2.turn (hk _ h4), h3.turn (fun g e => hk _ (h5 g e)), h4, h5⟩, h.own, fun k hf => Nat.lt_of_lt_of_le (h.lt k hf) hs, h.low⟩
theorem BB.setRow {B : Nat} {w : World} {F : Nat → Prop} {b vb : Nat} {v : Vw} {O : List (Int × Bs)} (h : BB B w F b vb v O) {x : Nat} (hx : ¬ F x) (C : Array Value) : BB B (w.setRow x C) F b vb v O :=
  h.same (below_setRow (g := x) (Below.refl 0 w) (Nat.zero_le _) C).size (fun _ hf => setRow_other _ _ _ _ (fun e => hx (e ▸ hf)))
theorem BB.setCell {B : Nat} {w : World} {F : Nat → Prop} {b vb : Nat} {v : Vw} {O : List (Int × Bs)} (h : BB B w F b vb v O) {x j : Nat} (hx : ¬ F x) (u : Value) : BB B (w.setCell ⟨x, j, none⟩ u) F b vb v O :=
  h.same (Below.setCell (Below.refl 0 w) (p := ⟨x, j, none⟩) (Nat.zero_le _) u).size (fun k hf => Below.heap_setCell _ _ _ _ (fun e => hx ((show k = x from e) ▸ hf)))
theorem nd_kp {w w' : World} {F F' : Nat → Prop} {g : Nat} {E : Nat → Nat} {K : Nat → Nat → Bool} (h : Nd w g E K) (ht : Ty w F) (hk : Kp F F' w w') : Nd w' g E K := by
  refine h.turn (hk.block g h.lt (fun c => ?_))
  obtain ⟨C, t, fr, e, hty⟩ := ht g c
  obtain ⟨C', hC, -⟩ := h
  rw [e] at hC
  injection hC with hC
  injection hC with _ hC _
  rcases hty with rfl | rfl | rfl <;> exact absurd hC (by decide)
theorem outr_kp {B : Nat} {w w' : World} {F F' : Nat → Prop} {u : Value} {O : List (Int × Bs)} (h : OutR B w u O) (ht : Ty w F) (hk : Kp F F' w w') : OutR B w' u O := by
  refine outr_turn h (fun k C fr e => hk.block k (Array.getElem?_eq_some_iff.1 e).1 (fun c => ?_))
  obtain ⟨C', t, fr', e', hty⟩ := ht k c
  rw [e] at e'
  injection e' with e'
  injection e' with _ e' _
  rcases hty with rfl | rfl | rfl <;> exact absurd e' (by decide)
/-- a bus of the document's, as a value -/
def DB (w : World) (me : Nat) (RC : Array Value) (v : Vw) (O : List (Int × Bs)) : Prop := ∃ g cap B u, RC = rbc me g cap v.cur u ∧ Nd w g v.ep v.cl ∧ OutR B w u O
theorem DB.call {w w' : World} {me : Nat} {RC : Array Value} {v : Vw} {O : List (Int × Bs)} (h : DB w me RC v O) (hb : Below w.heap.size w w') : DB w' me RC v O := by
  obtain ⟨g, cap, B, u, h1, h2, h3⟩ := h
  exact ⟨g, cap, B, u, h1, h2.below hb h2.lt, OutR.below h3 hb⟩
theorem DB.kp {w w' : World} {F F' : Nat → Prop} {me : Nat} {RC : Array Value} {v : Vw} {O : List (Int × Bs)} (h : DB w me RC v O) (ht : Ty w F) (hk : Kp F F' w w') : DB w' me RC v O := by
  obtain ⟨g, cap, B, u, h1, h2, h3⟩ := h
  exact ⟨g, cap, B, u, h1, nd_kp h2 ht hk, outr_kp h3 ht hk⟩
theorem DB.setRow {w : World} {me x : Nat} {RC C' C : Array Value} {v : Vw} {O : List (Int × Bs)} (h : DB w me RC v O) (hx : w.heap[x]? = some (.cells C' 41 (0, 0))) : DB (w.setRow x C) me RC v O := by
  obtain ⟨g, cap, B, u, h1, h2, h3⟩ := h
  exact ⟨g, cap, B, u, h1, h2.turn (setRow_other _ _ _ _ (nd_apart h2 hx)), outr_apart h3 hx⟩
theorem DB.one {w : World} {me : Nat} {RC : Array Value} {v : Vw} {O : List (Int × Bs)} (h : DB w me RC v O) : RC.size = 4 ∧ RC.all (·.oneCell') = true ∧ (Tryz.prog.info? 41).map (·.size) = some RC.size := by
  obtain ⟨g, cap, B, u, rfl, -, h2⟩ := h
  obtain ⟨a, c, rfl⟩ := out_shape h2
  exact ⟨rfl, rbc_one _ _ _ _ _ rfl, infoRB rfl⟩
/-- what does begins with -/
structure Dk (B b vb : Nat) (F : Nat → Prop) (v : Vw) (O : List (Int × Bs)) (me g B1 : Nat) (v2 : Vw) (u : Value) (O2 : List (Int × Bs)) (w : World) : Prop where
  bus : BB B w F b vb v O
  ty : Ty w F
  env : Env w
  b7 : 7 ≤ B
  ok : v.Ok 900000
  ol : O.length ≤ 700000
  me_ : v2.self = me
  ok2 : v2.Ok 900000
  nd : Nd w g v2.ep v2.cl
  out : OutR B1 w u O2
  ol2 : O2.length ≤ 700000
theorem Dk.call {B b vb : Nat} {F : Nat → Prop} {v : Vw} {O : List (Int × Bs)} {me g B1 : Nat} {v2 : Vw} {u : Value} {O2 : List (Int × Bs)} {w w' : World} (h : Dk B b vb F v O me g B1 v2 u O2 w) (hb : Below w.heap.size w w') : Dk B b vb F v O me g B1 v2 u O2 w' :=
  ⟨h.bus.call hb, h.ty.call hb, h.env.below hb h.env.room, h.b7, h.ok, h.ol, h.me_, h.ok2, h.nd.below hb h.nd.lt, OutR.below h.out hb, h.ol2⟩
theorem Dk.drew {B b vb : Nat} {F : Nat → Prop} {v : Vw} {O : List (Int × Bs)} {me g B1 : Nat} {v2 : Vw} {u : Value} {O2 : List (Int × Bs)} {w : World} (h : Dk B b vb F v O me g B1 v2 u O2 w) : Dk B b vb F v O me g B1 v2 u O2 w.drew := h.call (Below.refl _ _).drew
noncomputable def bV (v : Vw) (o : OpB) : Vw := if o.kind = 2 then bView v o.s else if o.kind = 3 then bWin v o.slot o.least else if o.kind = 4 then bGive v o.slot o.n else v
noncomputable def bO (v : Vw) (O : List (Int × Bs)) (o : OpB) : List (Int × Bs) := if o.kind = 0 then O ++ tellO v 1 o.n else if o.kind = 1 then O ++ tellO v 4 o.n else if o.kind = 2 then O ++ bOut v o.s else if o.kind = 5 then [] else O
/-- what does leaves and answers -/
def DoesP (B b vb : Nat) (F : Nat → Prop) (v : Vw) (O : List (Int × Bs)) (me : Nat) (v2 : Vw) (O2 : List (Int × Bs)) (o : OpB) (w : World) (e : Ending) (w' : World) : Prop :=
  ∃ RC c, e = .returned (.tuple #[.agg RC, .bool c]) ∧ (∃ F', BB B w' F' b vb (bV v o) (bO v O o) ∧ Ty w' F' ∧ Kp F F' w w') ∧ (v2 = v → O2 = O → c = true ∧ DB w' me RC (bV v o) (bO v O o))
theorem does_fin {B b vb : Nat} {F : Nat → Prop} {v : Vw} {O : List (Int × Bs)} {me : Nat} {v2 : Vw} {O2 : List (Int × Bs)} {o : OpB} {w w' : World} {F' : Nat → Prop} {RC : Array Value} {c : Bool} {v' : Vw} {O' : List (Int × Bs)}
    (h1 : bV v o = v') (h2 : bO v O o = O') (h3 : BB B w' F' b vb v' O') (h4 : Kp F F' w w') (h5 : v2 = v → O2 = O → c = true ∧ DB w' me RC v' O') : DoesP B b vb F v O me v2 O2 o w (.returned (.tuple #[.agg RC, .bool c])) w' := by
  obtain ⟨F0, k1, k2, k3⟩ := bb_min h3
  subst h1 h2
  exact ⟨RC, c, rfl, ⟨F0, k1, k3, h4.less k2⟩, h5⟩
/-- does, on its way: boxes of what came in, and of what goes out -/
structure Df (w wr : World) (RB OC : Array Value) : Prop where
  r : wr.heap[w.heap.size]? = some (.cells RB 41 (0, 0))
  o : wr.heap[w.heap.size + 1]? = some (.cells OC 43 (0, 0))
  s : wr.heap[w.heap.size + 2]? = some (.cells #[.int .i64 0, .slice none 0 0, .int .u64 0, .slice none 0 0] 41 (0, 0))
theorem df_below (w : World) (RB OC : Array Value) : Below w.heap.size w (((w.alloc (.cells RB 41)).alloc (.cells OC 43)).alloc (.cells #[.int .i64 0, .slice none 0 0, .int .u64 0, .slice none 0 0] 41)) :=
  ((below_alloc w _).alloc (by simp) _).alloc (by simp; omega) _
theorem df_new (w : World) (RB OC : Array Value) : Df w (((w.alloc (.cells RB 41)).alloc (.cells OC 43)).alloc (.cells #[.int .i64 0, .slice none 0 0, .int .u64 0, .slice none 0 0] 41)) RB OC := by
  have b2 := below_alloc (w.alloc (.cells RB 41)) (.cells OC 43)
  have b3 := below_alloc ((w.alloc (.cells RB 41)).alloc (.cells OC 43)) (.cells #[.int .i64 0, .slice none 0 0, .int .u64 0, .slice none 0 0] 41)
  have e1 : (w.alloc (.cells RB 41)).heap.size = w.heap.size + 1 := by simp
  have e2 : ((w.alloc (.cells RB 41)).alloc (.cells OC 43)).heap.size = w.heap.size + 2 := by simp
  refine ⟨(b3.block _ (by omega)).trans ((b2.block _ (by omega)).trans (heap_alloc_new w _)), (b3.block _ (by omega)).trans ?_, ?_⟩
  · have := heap_alloc_new (w.alloc (.cells RB 41)) (.cells OC 43)
    rwa [e1] at this
  · have := heap_alloc_new ((w.alloc (.cells RB 41)).alloc (.cells OC 43)) (.cells #[.int .i64 0, .slice none 0 0, .int .u64 0, .slice none 0 0] 41)
    rwa [e2] at this
theorem Df.keep {w wr w' : World} {RB OC : Array Value} (h : Df w wr RB OC) (hb : ∀ k, k < wr.heap.size → w.heap.size ≤ k → w'.heap[k]? = wr.heap[k]?) : Df w w' RB OC :=
  ⟨(hb _ (Array.getElem?_eq_some_iff.1 h.r).1 (by omega)).trans h.r, (hb _ (Array.getElem?_eq_some_iff.1 h.o).1 (by omega)).trans h.o, (hb _ (Array.getElem?_eq_some_iff.1 h.s).1 (by omega)).trans h.s⟩
theorem Df.below {w wr w' : World} {RB OC : Array Value} (h : Df w wr RB OC) (hb : Below wr.heap.size wr w') : Df w w' RB OC := h.keep (fun k hk _ => hb.block k hk)
theorem Df.kp {w wr w' : World} {RB OC : Array Value} {F F' : Nat → Prop} (h : Df w wr RB OC) (hk : Kp F F' wr w') (hl : ∀ k, F k → k < w.heap.size) : Df w w' RB OC :=
  h.keep (fun k h1 h2 => hk.block k h1 (fun c => by have := hl k c; omega))
theorem opb_cells (o : OpB) (W : World) (x : Nat) (h : W.heap[x]? = some (.cells (opbCells o) 43 (0, 0))) : W.cell? ⟨x, 0, none⟩ = some (.int .i64 o.kind) ∧ W.cell? ⟨x, 1, none⟩ = some (.int .i64 o.n) ∧ W.cell? ⟨x, 2, none⟩ = some (.int .i64 o.slot) ∧ W.cell? ⟨x, 3, none⟩ = some (.int .u64 (o.least : Int)) ∧ W.cell? ⟨x, 4, none⟩ = some (.string ⟨o.s.toArray⟩) :=
  ⟨cell_of_row W x 0 _ _ _ h, cell_of_row W x 1 _ _ _ h, cell_of_row W x 2 _ _ _ h, cell_of_row W x 3 _ _ _ h, cell_of_row W x 4 _ _ _ h⟩

end Go.Proofs.YtbfllifgmlkndaaGreatDoor
