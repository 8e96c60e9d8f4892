/- BlMem, BlNetM. -/
import Derived.Test.YtbfllifgmlkndaaGreatDoorM44
import Derived.Test.YtbfllifgmlkndaaGreatDoorM41
import Derived.Test.YtbfllifgmlkndaaGreatDoorM33
import Derived.Test.YtbfllifgmlkndaaGreatDoorM04
namespace Go.Proofs.YtbfllifgmlkndaaGreatDoor
open Go.RowKit
open Slot

/-- a bus' blocks are of its own types -/
def Ty (w : World) (F : Nat → Prop) : Prop := ∀ k, F k → ∃ C t fr, w.heap[k]? = some (.cells C t fr) ∧ (t = 77 ∨ t = 109 ∨ t = 69)
theorem Ty.call {w w' : World} {F : Nat → Prop} (h : Ty w F) (hb : Below w.heap.size w w') : Ty w' F := fun k hk => by
  obtain ⟨C, t, fr, h1, h2⟩ := h k hk
  exact ⟨C, t, fr, (hb.block k (Array.getElem?_eq_some_iff.1 h1).1).trans h1, h2⟩
/-- no more blocks than there must be -/
theorem bb_min {B : Nat} {w : World} {F : Nat → Prop} {b vb : Nat} {v : Vw} {O : List (Int × Bs)} (h : BB B w F b vb v O) : ∃ F0, BB B w F0 b vb v O ∧ (∀ k, F0 k → F k) ∧ Ty w F0 := by
  obtain ⟨rv, h1, h2, h3, h4, h5⟩ := h.ex
  refine ⟨fun k => k = b ∨ k = vb ∨ rv.ownBlock = some k, ⟨⟨rv, h1, h2, h3, .inr (.inl rfl), fun g e => .inr (.inr e)⟩, .inl rfl, fun k hk => ?_, fun k hk => ?_⟩, fun k hk => ?_, fun k hk => ?_⟩
  · rcases hk with rfl | rfl | e
    · exact h.lt _ h.own
    · exact h.lt _ h4
    · exact h.lt _ (h5 k e)
  · rcases hk with rfl | rfl | e
    · exact h.low _ h.own
    · exact h.low _ h4
    · exact h.low _ (h5 k e)
  · rcases hk with rfl | rfl | e
    · exact h.own
    · exact h4
    · exact h5 k e
  · rcases hk with rfl | rfl | e
    · exact ⟨_, _, _, h1, .inl rfl⟩
    · obtain ⟨VC, hv1, -⟩ := h2
      exact ⟨_, _, _, hv1, .inr (.inl rfl)⟩
    · rcases h3.2 with ⟨hv, -⟩ | ⟨gg, cp, cur', hv, hg, hh, r⟩
      · rw [hv] at e; cases e
      · rw [hv] at e
        obtain rfl : gg = k := Option.some.inj (show some gg = some k from e)
        exact ⟨_, _, _, hh, .inr (.inr rfl)⟩
theorem Kp.less {F F' F0 : Nat → Prop} {w w' : World} (h : Kp F F' w w') (h0 : ∀ k, F0 k → F' k) : Kp F F0 w w' := ⟨h.like, h.block, fun k hk => h.foot k (h0 k hk)⟩
theorem Kp.setRow {F F' : Nat → Prop} {w w' : World} (h : Kp F F' w w') {x : Nat} (hx : w.heap.size ≤ x) (C : Array Value) : Kp F F' w (w'.setRow x C) := by
  have hb := below_setRow (g := x) (h.like.mono (Nat.le_refl _)) (Nat.zero_le _) C
  exact ⟨hb, fun k hk hf => (setRow_other _ _ _ _ (by omega)).trans (h.block k hk hf), h.foot⟩
theorem Kp.setCell {F F' : Nat → Prop} {w w' : World} (h : Kp F F' w w') {x j : Nat} (hx : w.heap.size ≤ x) (u : Value) : Kp F F' w (w'.setCell ⟨x, j, none⟩ u) := by
  have hb := Below.setCell h.like (p := ⟨x, j, none⟩) (Nat.zero_le _) u
  exact ⟨hb, fun k hk hf => (Below.heap_setCell _ _ _ _ (by show k ≠ x; omega)).trans (h.block k hk hf), h.foot⟩
theorem BB.same {B : Nat} {w w' : World} {F : Nat → Prop} {b vb : Nat} {v : Vw} {O : List (Int × Bs)} (h : BB B w F b vb v O) (hs : w.heap.size ≤ w'.heap.size) (hk : ∀ k, F k → w'.heap[k]? = w.heap[k]?) : BB B w' F b vb v O := by
  obtain ⟨rv, h1, h2, h3, h4, h5⟩ := h.ex
  exact ⟨⟨rv, (hk _ h.own).trans h1, h2.turn (hk _ h4), h3.turn (fun g e => hk _ (h5 g e)), h4, h5⟩, h.own, fun k hf => Nat.lt_of_lt_of_le (h.lt k hf) hs, h.low⟩
theorem BB.setRow {B : Nat} {w : World} {F : Nat → Prop} {b vb : Nat} {v : Vw} {O : List (Int × Bs)} (h : BB B w F b vb v O) {x : Nat} (hx : ¬ F x) (C : Array Value) : BB B (w.setRow x C) F b vb v O :=
  h.same (below_setRow (g := x) (Below.refl 0 w) (Nat.zero_le _) C).size (fun _ hf => setRow_other _ _ _ _ (fun e => hx (e ▸ hf)))
theorem BB.setCell {B : Nat} {w : World} {F : Nat → Prop} {b vb : Nat} {v : Vw} {O : List (Int × Bs)} (h : BB B w F b vb v O) {x j : Nat} (hx : ¬ F x) (u : Value) : BB B (w.setCell ⟨x, j, none⟩ u) F b vb v O :=
  h.same (Below.setCell (Below.refl 0 w) (p := ⟨x, j, none⟩) (Nat.zero_le _) u).size (fun k hf => Below.heap_setCell _ _ _ _ (fun e => hx ((show k = x from e) ▸ hf)))
theorem nd_kp {w w' : World} {F F' : Nat → Prop} {g : Nat} {E : Nat → Nat} {K : Nat → Nat → Bool} (h : Nd w g E K) (ht : Ty w F) (hk : Kp F F' w w') : Nd w' g E K := by
  refine h.turn (hk.block g h.lt (fun c => ?_))
  obtain ⟨C, t, fr, e, hty⟩ := ht g c
  obtain ⟨C', hC, -⟩ := h
  rw [e] at hC
  injection hC with hC
  injection hC with _ hC _
  rcases hty with rfl | rfl | rfl <;> exact absurd hC (by decide)
theorem outr_kp {B : Nat} {w w' : World} {F F' : Nat → Prop} {u : Value} {O : List (Int × Bs)} (h : OutR B w u O) (ht : Ty w F) (hk : Kp F F' w w') : OutR B w' u O := by
  refine outr_turn h (fun k C fr e => hk.block k (Array.getElem?_eq_some_iff.1 e).1 (fun c => ?_))
  obtain ⟨C', t, fr', e', hty⟩ := ht k c
  rw [e] at e'
  injection e' with e'
  injection e' with _ e' _
  rcases hty with rfl | rfl | rfl <;> exact absurd e' (by decide)
/-- a bus of the document's, as a value -/
def DB (w : World) (me : Nat) (RC : Array Value) (v : Vw) (O : List (Int × Bs)) : Prop := ∃ g cap B u, RC = rbc me g cap v.cur u ∧ Nd w g v.ep v.cl ∧ OutR B w u O
theorem DB.call {w w' : World} {me : Nat} {RC : Array Value} {v : Vw} {O : List (Int × Bs)} (h : DB w me RC v O) (hb : Below w.heap.size w w') : DB w' me RC v O := by
  obtain ⟨g, cap, B, u, h1, h2, h3⟩ := h
  exact ⟨g, cap, B, u, h1, h2.below hb h2.lt, OutR.below h3 hb⟩
theorem DB.kp {w w' : World} {F F' : Nat → Prop} {me : Nat} {RC : Array Value} {v : Vw} {O : List (Int × Bs)} (h : DB w me RC v O) (ht : Ty w F) (hk : Kp F F' w w') : DB w' me RC v O := by
  obtain ⟨g, cap, B, u, h1, h2, h3⟩ := h
  exact ⟨g, cap, B, u, h1, nd_kp h2 ht hk, outr_kp h3 ht hk⟩
theorem DB.setRow {w : World} {me x : Nat} {RC C' C : Array Value} {v : Vw} {O : List (Int × Bs)} (h : DB w me RC v O) (hx : w.heap[x]? = some (.cells C' 41 (0, 0))) : DB (w.setRow x C) me RC v O := by
  obtain ⟨g, cap, B, u, h1, h2, h3⟩ := h
  exact ⟨g, cap, B, u, h1, h2.turn (setRow_other _ _ _ _ (nd_apart h2 hx)), outr_apart h3 hx⟩
theorem DB.one {w : World} {me : Nat} {RC : Array Value} {v : Vw} {O : List (Int × Bs)} (h : DB w me RC v O) : RC.size = 4 ∧ RC.all (·.oneCell') = true ∧ (Tryz.prog.info? 41).map (·.size) = some RC.size := by
  obtain ⟨g, cap, B, u, rfl, -, h2⟩ := h
  obtain ⟨a, c, rfl⟩ := out_shape h2
  exact ⟨rfl, rbc_one _ _ _ _ _ rfl, infoRB rfl⟩
/-- what does begins with -/
structure Dk (B b vb : Nat) (F : Nat → Prop) (v : Vw) (O : List (Int × Bs)) (me g B1 : Nat) (v2 : Vw) (u : Value) (O2 : List (Int × Bs)) (w : World) : Prop where
  bus : BB B w F b vb v O
  ty : Ty w F
  env : Env w
  b7 : 7 ≤ B
  ok : v.Ok 900000
  ol : O.length ≤ 700000
  me_ : v2.self = me
  ok2 : v2.Ok 900000
  nd : Nd w g v2.ep v2.cl
  out : OutR B1 w u O2
  ol2 : O2.length ≤ 700000
theorem Dk.call {B b vb : Nat} {F : Nat → Prop} {v : Vw} {O : List (Int × Bs)} {me g B1 : Nat} {v2 : Vw} {u : Value} {O2 : List (Int × Bs)} {w w' : World} (h : Dk B b vb F v O me g B1 v2 u O2 w) (hb : Below w.heap.size w w') : Dk B b vb F v O me g B1 v2 u O2 w' :=
  ⟨h.bus.call hb, h.ty.call hb, h.env.below hb h.env.room, h.b7, h.ok, h.ol, h.me_, h.ok2, h.nd.below hb h.nd.lt, OutR.below h.out hb, h.ol2⟩
theorem Dk.drew {B b vb : Nat} {F : Nat → Prop} {v : Vw} {O : List (Int × Bs)} {me g B1 : Nat} {v2 : Vw} {u : Value} {O2 : List (Int × Bs)} {w : World} (h : Dk B b vb F v O me g B1 v2 u O2 w) : Dk B b vb F v O me g B1 v2 u O2 w.drew := h.call (Below.refl _ _).drew
/-- does, on its way: boxes of what came in, and of what goes out -/
structure Df (w wr : World) (RB OC : Array Value) : Prop where
  r : wr.heap[w.heap.size]? = some (.cells RB 41 (0, 0))
  o : wr.heap[w.heap.size + 1]? = some (.cells OC 43 (0, 0))
  s : wr.heap[w.heap.size + 2]? = some (.cells #[.int .i64 0, .slice none 0 0, .int .u64 0, .slice none 0 0] 41 (0, 0))
theorem Df.keep {w wr w' : World} {RB OC : Array Value} (h : Df w wr RB OC) (hb : ∀ k, k < wr.heap.size → w.heap.size ≤ k → w'.heap[k]? = wr.heap[k]?) : Df w w' RB OC :=
  ⟨(hb _ (Array.getElem?_eq_some_iff.1 h.r).1 (by omega)).trans h.r, (hb _ (Array.getElem?_eq_some_iff.1 h.o).1 (by omega)).trans h.o, (hb _ (Array.getElem?_eq_some_iff.1 h.s).1 (by omega)).trans h.s⟩
theorem Df.below {w wr w' : World} {RB OC : Array Value} (h : Df w wr RB OC) (hb : Below wr.heap.size wr w') : Df w w' RB OC := h.keep (fun k hk _ => hb.block k hk)
theorem Df.kp {w wr w' : World} {RB OC : Array Value} {F F' : Nat → Prop} (h : Df w wr RB OC) (hk : Kp F F' wr w') (hl : ∀ k, F k → k < w.heap.size) : Df w w' RB OC :=
  h.keep (fun k h1 h2 => hk.block k h1 (fun c => by have := hl k c; omega))
end Go.Proofs.YtbfllifgmlkndaaGreatDoor

namespace Go.Proofs.YtbfllifgmlkndaaGreatDoor
open Go.RowKit
open Slot

theorem GoodP.like {o : Nat → Nat} {n : Nat} {p q : Pk} (h : GoodP o n p) (k : Like q p) : GoodP o n q := by
  obtain ⟨h1, h2, h3, h4, h5, h6⟩ := k
  refine ⟨by rw [h1]; exact h.kind, h2.trans h.frm, h3.trans h.of_, h4.trans h.epoch, by rw [h4, h5]; exact h.cur1, by rw [h5]; exact h.cur2, fun s hs => (h6 s (by unfold top; omega)).trans (h.cl s hs)⟩
theorem GoodP.dec {o : Nat → Nat} {n : Nat} {p : Pk} (h : GoodP o n p) (hn : n < 64) : decE (encS p) = 0 ∧ GoodP o n (decPk (encS p)) ∧ (decPk (encS p)).kind = p.kind ∧ (encS p).length ≤ 100000 := by
  have hr := h.right hn
  have h1 := h.cur1
  have h2 := h.cur2
  have he : p.epoch < 256 ^ 8 := by omega
  have hc : p.cur < 256 ^ 8 := by omega
  have e : encS p = enc p := by unfold encS; rw [if_pos hr]
  rw [e]
  obtain ⟨d1, d2⟩ := dec_is (dec_enc hr he hc)
  have hl := rd_enc hr he hc
  rw [d1, d2]
  refine ⟨rfl, h.like hl, hl.1, ?_⟩
  rw [enc_len]
  have := ctext_len p.cl
  omega
/-- a packet that another one told of itself is taken in -/
theorem good_take {o : Nat → Nat} {n i : Nat} {p : Pk} {v : Vw} (h : GoodP o n p) (hn : n < 64) (hi : Inv o i v) (hne : n ≠ i) :
    bTake v (encS p) = true ∧ Inv o i (bView v (encS p)) ∧ (∀ s, s < 16384 → o s = n → (bView v (encS p)).own s = n) ∧ (∀ s, s < 16384 → v.own s ≠ 64 → (bView v (encS p)).own s = v.own s) ∧
      bOut v (encS p) = if p.kind = 1 then [((n : Int), encS (tellV (bView v (encS p)) 2))] else [] := by
  obtain ⟨h1, h2, h3, -⟩ := h.dec hn
  have hT : bTake v (encS p) = true := by
    unfold bTake
    rw [h1, h2.frm, hi.self, decide_eq_true rfl, decide_eq_true (by omega)]; rfl
  have hV : bView v (encS p) = takeV v (decPk (encS p)) := by unfold bView; rw [if_pos hT]
  have hO : bOut v (encS p) = outs (decPk (encS p)).frm (answV v (decPk (encS p))) := by unfold bOut; rw [if_pos hT]
  obtain ⟨k1, k2, k3, k4⟩ := hi.take h2 hn hne
  rw [hO, hV, k4, h3, h2.frm]
  refine ⟨hT, k1, k2, k3, ?_⟩
  split <;> rfl
theorem tell_one {o : Nat → Nat} {i : Nat} {v : Vw} (hi : Inv o i v) (t : Nat) (ht : t < 64) (hne : t ≠ i) (k : Int) : tellE v (t : Int) = 0 ∧ tellO v k (t : Int) = [((t : Int), encS (tellV v k))] := by
  have hs := hi.self
  have hT : tellB v (t : Int) = true := by
    unfold tellB
    rw [decide_eq_true (by omega), decide_eq_true (by omega), hs, decide_eq_true (by omega)]; rfl
  refine ⟨by unfold tellE; rw [if_pos hT], by unfold tellO; rw [if_pos hT]; rfl⟩
theorem tell_self {o : Nat → Nat} {i : Nat} {v : Vw} (hi : Inv o i v) (k : Int) : tellO v k (i : Int) = [] := by
  have hs := hi.self
  have hT : tellB v (i : Int) = false := by
    unfold tellB
    rw [hs, decide_eq_false (show ¬ ((i : Int) ≠ (i : Int)) by simp), Bool.and_false]
  unfold tellO
  rw [if_neg (by rw [hT]; decide)]

end Go.Proofs.YtbfllifgmlkndaaGreatDoor
