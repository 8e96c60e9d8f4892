/- BuRef1, BuSame, BpMem, BpLay, BuRef2, VwTake5, BuRef4, VwNewNo, VwDo. -/
import Derived.Test.YtbfllifgmlkndaaGreatDoorM28
import Derived.Test.YtbfllifgmlkndaaGreatDoorM30
import Derived.Test.YtbfllifgmlkndaaGreatDoorM21
import Derived.Test.YtbfllifgmlkndaaGreatDoorM06
import Derived.Deep.RegionHeld3
import Derived.Test.YtbfllifgmlkndaaGreatDoorM22
import Derived.Test.YtbfllifgmlkndaaGreatDoorM26
namespace Go.Proofs.YtbfllifgmlkndaaGreatDoor
open Go.RowKit
open Slot

/-- what goes out, cell by cell -/
def flatO (L : List (Int × Bs)) : List Value := L.flatMap fun o => [.int .i64 o.1, .string ⟨o.2.toArray⟩]
theorem flatO_app (L M : List (Int × Bs)) : flatO (L ++ M) = flatO L ++ flatO M := by unfold flatO; rw [List.flatMap_append]
theorem flatO_one (L : List (Int × Bs)) : ∀ u ∈ flatO L, u.oneCell' = true := fun u hu => by
  unfold flatO at hu
  obtain ⟨o, _, ho⟩ := List.mem_flatMap.1 hu
  simp only [List.mem_cons, List.not_mem_nil, or_false] at ho
  rcases ho with rfl | rfl <;> rfl
/-- a row of the document's Outs of the call's own, or of an earlier one's -/
def OutR (B : Nat) (W : World) (v : Value) (L : List (Int × Bs)) : Prop := W.ownsRow B 91 2 v L.length (flatO L)
theorem OutR.mono {B C : Nat} {W : World} {v : Value} {L : List (Int × Bs)} (h : OutR B W v L) (hc : C ≤ B) : OutR C W v L := by
  obtain ⟨h1, h2⟩ := h
  refine ⟨h1, ?_⟩
  rcases h2 with h2 | ⟨g, cap, cur, a, b, r⟩
  · exact .inl h2
  · exact .inr ⟨g, cap, cur, a, Nat.le_trans hc b, r⟩
theorem OutR.below {B : Nat} {W W' : World} {v : Value} {L : List (Int × Bs)} (h : OutR B W v L) (hb : Below W.heap.size W W') : OutR B W' v L := owns_below h hb
/-- the document's bus, as cells -/
def rbc (self g cap cur : Nat) (v : Value) : Array Value := #[.int .i64 (self : Int), .slice (some ⟨g, 0, none⟩) 64 cap, .int .u64 (cur : Int), v]
theorem infoRB {C : Array Value} (h : C.size = 4) : (Tryz.prog.info? 41).map (·.size) = some C.size := by rw [h]; kernel_rfl
/-- what Encode makes of each -/
noncomputable def outs (tgt : Int) (L : List Pk) : List (Int × Bs) := L.map fun p => (tgt, encS p)
theorem outs_take (tgt : Int) (L : List Pk) {k : Nat} (h : k < L.length) : outs tgt (L.take (k + 1)) = outs tgt (L.take k) ++ [(tgt, encS L[k])] := by
  unfold outs
  rw [List.take_succ_eq_append_getElem h, List.map_append]; rfl
end Go.Proofs.YtbfllifgmlkndaaGreatDoor

namespace Go.Proofs.YtbfllifgmlkndaaGreatDoor
open Go.RowKit
open Slot

/-- a row of what goes out that may be read -/
def OutB (w : World) (a : Option Addr) (L : List (Int × Bs)) : Prop := L ≠ [] → ∃ b o, a = some ⟨b, o, none⟩ ∧ b < w.heap.size ∧ ∀ j (h : j < L.length), w.cell? ⟨b, o + j * 2, none⟩ = some (.int .i64 L[j].1) ∧ w.cell? ⟨b, o + j * 2 + 1, none⟩ = some (.string ⟨L[j].2.toArray⟩)
theorem flatO_get : ∀ (L : List (Int × Bs)) (j : Nat) (h : j < L.length), (flatO L)[j * 2]? = some (.int .i64 L[j].1) ∧ (flatO L)[j * 2 + 1]? = some (.string ⟨L[j].2.toArray⟩)
  | [], j, h => absurd h (Nat.not_lt_zero _)
  | o :: L, 0, _ => ⟨rfl, rfl⟩
  | o :: L, j + 1, h => by
    have := flatO_get L j (by simpa using h)
    have e : flatO (o :: L) = .int .i64 o.1 :: .string ⟨o.2.toArray⟩ :: flatO L := rfl
    rw [e, show (j + 1) * 2 = j * 2 + 1 + 1 by omega, show j * 2 + 1 + 1 + 1 = (j * 2 + 1) + 1 + 1 by omega]
    simpa using this
end Go.Proofs.YtbfllifgmlkndaaGreatDoor

namespace Go.Proofs.YtbfllifgmlkndaaGreatDoor
open Go.RowKit
open Slot

/-- a row of what goes out, of a call's own or of an earlier one's -/
def GoR (B : Nat) (W : World) (v : Value) (L : List (Int × Bs)) : Prop := W.ownsRow B 69 2 v L.length (flatO L)
theorem gor_nil (B : Nat) (W : World) : GoR B W (.slice none 0 0) [] := World.ownsRow_nil _ _ _ _
theorem GoR.shape {B : Nat} {W : World} {v : Value} {L : List (Int × Bs)} (h : GoR B W v L) : ∃ a c, v = .slice a L.length c := by
  rcases h.2 with ⟨rfl, h0⟩ | ⟨g, cap, _, rfl, _⟩
  · exact ⟨none, 0, by rw [h0]⟩
  · exact ⟨_, _, rfl⟩
theorem GoR.lt {B : Nat} {W : World} {v : Value} {L : List (Int × Bs)} (h : GoR B W v L) {g : Nat} (hg : v.ownBlock = some g) : B ≤ g ∧ g < W.heap.size := World.ownsRow.lt h g hg
theorem GoR.turn {B : Nat} {W W' : World} {v : Value} {L : List (Int × Bs)} (h : GoR B W v L) (hb : ∀ g, v.ownBlock = some g → W'.heap[g]? = W.heap[g]?) : GoR B W' v L := by
  obtain ⟨h1, h2⟩ := h
  refine ⟨h1, ?_⟩
  rcases h2 with h2 | ⟨gg, cp, cur', hv, hg, hh, r⟩
  · exact .inl h2
  · exact .inr ⟨gg, cp, cur', hv, hg, (hb gg (by rw [hv]; rfl)).trans hh, r⟩
theorem GoR.out {B : Nat} {w : World} {v : Value} {L : List (Int × Bs)} (h : GoR B w v L) : ∃ a c, v = .slice a L.length c ∧ OutB w a L ∧ ∀ x, a = some x → v.ownBlock = some x.block := by
  rcases h.2 with ⟨rfl, h0⟩ | ⟨g, cap, cur, rfl, hg, hh, h1, h2, h3, h4⟩
  · exact ⟨none, 0, by rw [h0], fun hne => absurd (List.length_eq_zero_iff.1 h0) hne, fun x e => by cases e⟩
  · refine ⟨_, cap, rfl, fun hne => ⟨g, 0, rfl, (Array.getElem?_eq_some_iff.1 hh).1, fun j hj => ?_⟩, fun x e => by cases e; rfl⟩
    obtain ⟨e1, e2⟩ := flatO_get L j hj
    rw [Nat.zero_add, cell_of_row _ _ _ _ _ _ hh, cell_of_row _ _ _ _ _ _ hh]
    have key : ∀ i, i < L.length * 2 → cur[i]? = (flatO L)[i]? := fun i hi => by
      have := congrArg (fun l : List Value => l[i]?) h4
      simp only [List.getElem?_take] at this
      rw [if_pos hi] at this
      simpa using this
    exact ⟨(key _ (by omega)).trans e1, (key _ (by omega)).trans e2⟩
theorem infoOut : (Tryz.prog.info? 69).map (fun i => (i.zero.isSome, i.size, i.bytes)) = some (true, 2, 24) := by kernel_rfl
theorem zeroOut : ((Tryz.prog.info? 69).bind (fun i => i.zero)).map (fun z => z.cells.size) = some 2 := by kernel_rfl
theorem info_out : ∃ i0 z, Tryz.prog.info? 69 = some i0 ∧ i0.zero = some z ∧ i0.size = 2 ∧ i0.bytes = 24 ∧ z.cells.size = 2 := by
  have hi := infoOut
  cases hi0 : Tryz.prog.info? 69 with
  | none => rw [hi0] at hi; cases hi
  | some i0 =>
    rw [hi0] at hi
    simp only [Option.map_some, Option.some.injEq, Prod.mk.injEq] at hi
    obtain ⟨hz0, hz1, hz2⟩ := hi
    obtain ⟨z, hz⟩ := Option.isSome_iff_exists.1 hz0
    refine ⟨i0, z, rfl, hz, hz1, hz2, ?_⟩
    have hk := zeroOut
    rw [hi0, Option.bind_some, hz] at hk
    simpa using hk
/-- one more goes out: where the row lies behind -/
theorem gor_push {B : Nat} {W : World} {v : Value} {L : List (Int × Bs)} (h : GoR B W v L) (hB : B ≤ W.heap.size) (hl : L.length ≤ 1000000) (x : Nat) (t : Int) (s : Bs) (hx : W.heap[x]? = some (.cells #[.int .i64 t, .string ⟨s.toArray⟩] 69 (0, 0))) :
    ∃ v' W', (Builtin.append_ #[47, 47] 47 #[v, .slice (some ⟨x, 0, none⟩) 1 1]).run Tryz.prog W = .ok v' W' ∧ GoR B W' v' (L ++ [(t, s)]) ∧ W.grownBy W' v.ownBlock ∧ (∀ g, v'.ownBlock = some g → v.ownBlock = some g ∨ g = W.heap.size) := by
  obtain ⟨i0, z, hi0, hz, hz1, hz2, hzs⟩ := info_out
  have hl2 : (flatO [(t, s)]).length = 1 * 2 := rfl
  have hnews : ∀ j u, (flatO [(t, s)])[j]? = some u → W.cell? ((⟨x, 0, none⟩ : Addr).add j) = some u := fun j u hj => by
    rw [Go.WideShapes.add_plain, Nat.zero_add, cell_of_row W x j _ _ _ hx]
    match j, hj with
    | 0, hj => exact hj
    | 1, hj => exact hj
  have h1 := flatO_one [(t, s)]
  obtain ⟨v', W', hrun, ho, hgr, -⟩ := run_append_own (P := Tryz.prog) W B 47 47 69 i0 z 2 24 Tryz.underlying47 hi0 hz hz1 hz2 hzs (by decide) _ _ _ h ⟨x, 0, none⟩ 1 1 (flatO [(t, s)]) hl2 hnews h1 (by unfold maxLen; omega) (by omega) hB
  refine ⟨v', W', hrun, ?_, hgr, ?_⟩
  · show World.ownsRow _ _ _ _ _ _ _
    rw [List.length_append, flatO_app]
    exact ho
  · have hl' : (flatO [(t, s)]).length = 1 * i0.size := by rw [hz1]; rfl
    rcases h.2 with ⟨rfl, h0⟩ | ⟨g, cap, cur, rfl, hbg, hg, hnc, hcm, hcs, htake⟩
    · have hr := run_append_nil (P := Tryz.prog) W 47 47 69 i0 _ Tryz.underlying47 hi0 hz ⟨x, 0, none⟩ 1 1 (flatO [(t, s)]) hl' hnews (by omega) (by omega) (by rw [hz2]; omega)
      rw [hr] at hrun
      injection hrun with hrun _
      rw [← hrun]
      intro g e
      exact .inr (Option.some.inj (show some W.heap.size = some g from e)).symm
    · by_cases hroom : L.length + 1 ≤ cap
      · have hr := run_append_room (P := Tryz.prog) W 47 47 69 i0 Tryz.underlying47 hi0 g L.length cap cur hg ⟨x, 0, none⟩ 1 1 (flatO [(t, s)]) hl' hnews h1 hroom (by rw [hl', hcs, hz1]; omega)
        rw [hr] at hrun
        injection hrun with hrun _
        rw [← hrun]
        exact fun _ e => .inl e
      · have holds : ∀ j u, (flatO L)[j]? = some u → W.cell? ((⟨g, 0, none⟩ : Addr).add j) = some u := World.ownsRow.cells h (g := g) rfl
        have hr := run_append_grow (P := Tryz.prog) W 47 47 69 i0 _ Tryz.underlying47 hi0 hz ⟨g, 0, none⟩ L.length cap (flatO L) (by rw [hz1]; exact h.1) holds ⟨x, 0, none⟩ 1 1 (flatO [(t, s)]) hl' hnews (by omega) (by omega) (growslice_fits (by omega) (by rw [hz2]; omega))
        rw [hr] at hrun
        injection hrun with hrun _
        rw [← hrun]
        intro g' e
        exact .inr (Option.some.inj (show some W.heap.size = some g' from e)).symm

/-- a bus, as cells -/
def bkC (vb : Nat) (rv : Value) : Array Value := #[.pointer (some ⟨vb, 0, none⟩), rv]
/-- a bus in block b: what it knows, what goes out; F: the blocks that are its own, all from B on -/
structure BB (B : Nat) (w : World) (F : Nat → Prop) (b vb : Nat) (v : Vw) (O : List (Int × Bs)) : Prop where
  ex : ∃ rv, w.heap[b]? = some (.cells (bkC vb rv) 77 (0, 0)) ∧ VB w vb v ∧ GoR B w rv O ∧ F vb ∧ ∀ g, rv.ownBlock = some g → F g
  own : F b
  lt : ∀ k, F k → k < w.heap.size
  low : ∀ k, F k → B ≤ k
/-- what a call leaves alone -/
structure Kp (F F' : Nat → Prop) (w w' : World) : Prop where
  like : Below 0 w w'
  block : ∀ k, k < w.heap.size → ¬ F k → w'.heap[k]? = w.heap[k]?
  foot : ∀ k, F' k → F k ∨ w.heap.size ≤ k
theorem Kp.refl (F : Nat → Prop) (w : World) : Kp F F w w := ⟨Below.refl _ _, fun _ _ _ => rfl, fun _ h => .inl h⟩
theorem Kp.trans {F G H : Nat → Prop} {x y z : World} (h : Kp F G x y) (k : Kp G H y z) : Kp F H x z :=
  ⟨h.like.trans k.like, fun i hi hf => (k.block i (Nat.lt_of_lt_of_le hi h.like.size) (fun c => (h.foot i c).elim hf (fun c => by omega))).trans (h.block i hi hf), fun i hi =>
    (k.foot i hi).elim (h.foot i) (fun c => .inr (Nat.le_trans h.like.size c))⟩
theorem Kp.of_below {F : Nat → Prop} {n : Nat} {w w' : World} (h : Below n w w') (hn : w.heap.size ≤ n) : Kp F F w w' :=
  ⟨h.mono (Nat.zero_le _), fun k hk _ => h.block k (Nat.lt_of_lt_of_le hk hn), fun _ h => .inl h⟩
theorem Kp.below {F G : Nat → Prop} {n : Nat} {w w' : World} (h : Kp F G w w') (hF : ∀ k, F k → n ≤ k) (hn : n ≤ w.heap.size) : Below n w w' :=
  ⟨h.like.os, h.like.tape, h.like.output, h.like.size, fun k hk => h.block k (Nat.lt_of_lt_of_le hk hn) (fun c => by have := hF k c; omega)⟩
theorem Kp.env {F G : Nat → Prop} {w w' : World} (h : Kp F G w w') (hE : Env w) (hF : ∀ k, F k → 7 ≤ k) : Env w' := hE.below (h.below hF hE.room) (Nat.le_refl _)
theorem BB.below {B n : Nat} {w w' : World} {F : Nat → Prop} {b vb : Nat} {v : Vw} {O : List (Int × Bs)} (h : BB B w F b vb v O) (hb : Below n w w') (hn : ∀ k, F k → k < n) : BB B w' F b vb v O := by
  obtain ⟨rv, h1, h2, h3, h4, h5⟩ := h.ex
  refine ⟨⟨rv, (hb.block _ (hn _ h.own)).trans h1, h2.below hb (hn _ h4), h3.turn (fun g e => hb.block _ (hn _ (h5 g e))), h4, h5⟩, h.own, fun k hk => Nat.lt_of_lt_of_le (h.lt k hk) hb.size, h.low⟩
theorem BB.call {B : Nat} {w w' : World} {F : Nat → Prop} {b vb : Nat} {v : Vw} {O : List (Int × Bs)} (h : BB B w F b vb v O) (hb : Below w.heap.size w w') : BB B w' F b vb v O := h.below hb h.lt
/-- another one's call is not seen -/
theorem BB.keep {B : Nat} {w w' : World} {F G G' : Nat → Prop} {b vb : Nat} {v : Vw} {O : List (Int × Bs)} (h : BB B w F b vb v O) (hk : Kp G G' w w') (hd : ∀ k, F k → ¬ G k) : BB B w' F b vb v O := by
  obtain ⟨rv, h1, h2, h3, h4, h5⟩ := h.ex
  have key : ∀ k, F k → w'.heap[k]? = w.heap[k]? := fun k hf => hk.block k (h.lt k hf) (hd k hf)
  exact ⟨⟨rv, (key _ h.own).trans h1, h2.turn (key _ h4), h3.turn (fun g e => key _ (h5 g e)), h4, h5⟩, h.own, fun k hf => Nat.lt_of_lt_of_le (h.lt k hf) hk.like.size, h.low⟩
theorem BB.drew {B : Nat} {w : World} {F : Nat → Prop} {b vb : Nat} {v : Vw} {O : List (Int × Bs)} (h : BB B w F b vb v O) : BB B w.drew F b vb v O := h.call (Below.refl _ _).drew

/-- one more goes out: what of the bus is read and written on the way, and what it is behind -/
theorem bb_push {B : Nat} {w : World} {F : Nat → Prop} {b vb : Nat} {v : Vw} {O : List (Int × Bs)} (h : BB B w F b vb v O) (hl : O.length ≤ 1000000) (t : Int) (s : Bs) :
    ∃ a n c v' W', w.cell? ⟨b, 1, none⟩ = some (.slice a n c) ∧ (Builtin.append_ #[47, 47] 47 #[.slice a n c, .slice (some ⟨w.heap.size, 0, none⟩) 1 1]).run Tryz.prog (w.alloc (.cells #[.int .i64 t, .string ⟨s.toArray⟩] 69)) = .ok v' W' ∧
      W'.cell? ⟨b, 1, none⟩ = some (.slice a n c) ∧ W'.frozen? ⟨b, 1, none⟩ = false ∧ (∀ k, k < w.heap.size → ¬ F k → W'.heap[k]? = w.heap[k]?) ∧ (∃ a' n' c', v' = .slice a' n' c') ∧
      ∃ F', BB B (W'.setCell ⟨b, 1, none⟩ v') F' b vb v (O ++ [(t, s)]) ∧ Kp F F' w (W'.setCell ⟨b, 1, none⟩ v') := by
  obtain ⟨rv, h1, h2, h3, h4, h5⟩ := h.ex
  have hbw := h.lt b h.own
  have hvw := h.lt vb h4
  have hBb := h.low b h.own
  have hal := below_alloc w (.cells #[.int .i64 t, .string ⟨s.toArray⟩] 69)
  have hsz : (w.alloc (.cells #[.int .i64 t, .string ⟨s.toArray⟩] 69)).heap.size = w.heap.size + 1 := by simp
  have h3' : GoR B (w.alloc (.cells #[.int .i64 t, .string ⟨s.toArray⟩] 69)) rv O := h3.turn (fun g e => hal.block g (h.lt g (h5 g e)))
  obtain ⟨v', W', hr, hg, hgr, hwh⟩ := gor_push h3' (by rw [hsz]; omega) hl w.heap.size t s (heap_alloc_new w _)
  obtain ⟨a, c, rfl⟩ := h3.shape
  have hold : ∀ k, k < w.heap.size → (Value.slice a O.length c).ownBlock ≠ some k → W'.heap[k]? = w.heap[k]? := fun k hk hne =>
    (hgr.block k (by rw [hsz]; omega) (fun e => hne e.symm)).trans (hal.block k hk)
  have hob : ∀ k C (t : TypeId) fr, w.heap[k]? = some (.cells C t fr) → t ≠ 69 → (Value.slice a O.length c).ownBlock ≠ some k := fun k C t fr hk hne e => by
    rcases h3.2 with ⟨hv, -⟩ | ⟨gg, cp, cur', hv, hg, hh, r⟩
    · rw [hv] at e; cases e
    · rw [hv] at e
      have e : gg = _ := Option.some.inj (show some gg = some _ from e)
      rw [e, hk] at hh
      injection hh with hh
      injection hh with _ hh _
      exact hne hh
  have e1 : W'.heap[b]? = some (.cells (bkC vb (.slice a O.length c)) 77 (0, 0)) := (hold b hbw (hob b _ _ _ h1 (by decide))).trans h1
  obtain ⟨VC, hv1, hv2⟩ := h2
  have e2 : W'.heap[vb]? = w.heap[vb]? := hold vb hvw (hob vb _ _ _ hv1 (by decide))
  have hvb : vb ≠ b := fun e => by
    rw [e, h1] at hv1
    injection hv1 with hv1
    injection hv1 with _ hv1 _
    exact absurd hv1 (by decide)
  have hs' : W'.heap.size ≥ w.heap.size + 1 := by have := hgr.size; omega
  have e3 : (W'.setCell ⟨b, 1, none⟩ v').heap[b]? = some (.cells (bkC vb v') 77 (0, 0)) := heap_setCell_same W' b 1 _ _ _ e1
  have hso : ∀ k, k ≠ b → (W'.setCell ⟨b, 1, none⟩ v').heap[k]? = W'.heap[k]? := fun k hk => Below.heap_setCell _ _ _ _ hk
  have hss : (W'.setCell ⟨b, 1, none⟩ v').heap.size = W'.heap.size := by simp [World.setCell]
  have hgb : ∀ g, v'.ownBlock = some g → g ≠ b := fun g e e' => by
    rcases hg.2 with ⟨hv, -⟩ | ⟨gg, cp, cur', hv, _, hh, _⟩
    · rw [hv] at e; cases e
    · rw [hv] at e
      have e : gg = _ := Option.some.inj (show some gg = some _ from e)
      rw [e, e', e1] at hh
      injection hh with hh
      injection hh with _ hh _
      exact absurd hh (by decide)
  obtain ⟨a', c', hv'⟩ := hg.shape
  refine ⟨a, O.length, c, v', W', cell_of_row w b 1 _ _ _ h1, hr, cell_of_row W' b 1 _ _ _ e1, by simp [World.frozen?, e1], fun k hk hf => hold k hk (fun e => hf (h5 k e)), ⟨a', _, c', hv'⟩, fun k => k = b ∨ k = vb ∨ v'.ownBlock = some k, ?_, ?_⟩
  · refine ⟨⟨v', e3, ⟨VC, (hso vb hvb).trans (e2.trans hv1), hv2⟩, hg.turn (fun g e => hso g (hgb g e)), .inr (.inl rfl), fun g e => .inr (.inr e)⟩, .inl rfl, fun k hk => ?_, fun k hk => ?_⟩
    · rw [hss]
      rcases hk with rfl | rfl | e
      · omega
      · omega
      · exact (hg.lt e).2
    · rcases hk with rfl | rfl | e
      · exact hBb
      · exact h.low _ h4
      · exact (hg.lt e).1
  · refine ⟨⟨hgr.os.trans hal.os, hgr.tape.trans hal.tape, hgr.output.trans hal.output, by rw [hss]; omega, fun k hk => absurd hk (Nat.not_lt_zero _)⟩, fun k hk hf => (hso k (fun e => hf (e ▸ h.own))).trans (hold k hk (fun e => hf (h5 k e))), fun k hk => ?_⟩
    rcases hk with rfl | rfl | e
    · exact .inl h.own
    · exact .inl h4
    · rcases hwh k e with e | e
      · exact .inl (h5 k e)
      · exact .inr (by omega)
/-- the view of a bus -/
theorem BB.view {B : Nat} {w : World} {F : Nat → Prop} {b vb : Nat} {v : Vw} {O : List (Int × Bs)} (h : BB B w F b vb v O) : w.cell? ⟨b, 0, none⟩ = some (.pointer (some ⟨vb, 0, none⟩)) ∧ VB w vb v ∧ F vb ∧ ∀ w' v', VB w' vb v' → Only vb w w' → BB B w' F b vb v' O ∧ Kp F F w w' := by
  obtain ⟨rv, h1, h2, h3, h4, h5⟩ := h.ex
  refine ⟨cell_of_row w b 0 _ _ _ h1, h2, h4, fun w' v' hv ho => ⟨⟨⟨rv, ?_, hv, ?_, h4, h5⟩, h.own, fun k hk => Nat.lt_of_lt_of_le (h.lt k hk) ho.size, h.low⟩, ⟨⟨ho.os, ho.tape, ho.output, ho.size, fun k hk => absurd hk (Nat.not_lt_zero _)⟩, fun k hk hf => ho.block k hk (fun e => hf (e ▸ h4)), fun _ hk => .inl hk⟩⟩⟩
  all_goals obtain ⟨VC, hv1, hv2⟩ := h2
  · refine (ho.block b (h.lt b h.own) (fun e => ?_)).trans h1
    rw [← e, h1] at hv1
    injection hv1 with hv1
    injection hv1 with _ hv1 _
    exact absurd hv1 (by decide)
  · refine h3.turn (fun g e => ho.block g (h.lt g (h5 g e)) (fun e' => ?_))
    rcases h3.2 with ⟨hv, -⟩ | ⟨gg, cp, cur', hv, _, hh, _⟩
    · rw [hv] at e; cases e
    · rw [hv] at e
      have e : gg = _ := Option.some.inj (show some gg = some _ from e)
      rw [e, e', hv1] at hh
      injection hh with hh
      injection hh with _ hh _
      exact absurd hh (by decide)
/-- a bus that is made of a view -/
theorem bb_new {B vb : Nat} {w : World} {v : Vw} (hV : VB w vb v) (hB : B ≤ vb) : BB B (w.alloc (.cells (bkC vb (.slice none 0 0)) 77)) (fun k => k = w.heap.size ∨ k = vb) w.heap.size vb v [] := by
  have hl := hV.lt
  refine ⟨⟨.slice none 0 0, heap_alloc_new w _, hV.below (below_alloc w _) hl, gor_nil _ _, .inr rfl, fun g e => by cases e⟩, .inl rfl, fun k hk => ?_, fun k hk => ?_⟩
  · rw [World.size_alloc]
    rcases hk with rfl | rfl <;> omega
  · rcases hk with rfl | rfl <;> omega
/-- what has gone out is handed on -/
theorem bb_outs {B : Nat} {w : World} {F : Nat → Prop} {b vb : Nat} {v : Vw} {O : List (Int × Bs)} (h : BB B w F b vb v O) : ∃ a c, w.cell? ⟨b, 1, none⟩ = some (.slice a O.length c) ∧ w.frozen? ⟨b, 1, none⟩ = false ∧ OutB (w.setCell ⟨b, 1, none⟩ (.slice none 0 0)) a O ∧ (∀ x, a = some x → F x.block) ∧
    ∃ F', BB B (w.setCell ⟨b, 1, none⟩ (.slice none 0 0)) F' b vb v [] ∧ Kp F F' w (w.setCell ⟨b, 1, none⟩ (.slice none 0 0)) ∧ (∀ x, a = some x → ¬ F' x.block) := by
  obtain ⟨rv, h1, h2, h3, h4, h5⟩ := h.ex
  obtain ⟨a, c, rfl, ho, hx⟩ := h3.out
  obtain ⟨VC, hv1, hv2⟩ := h2
  have hso : ∀ k, k ≠ b → (w.setCell ⟨b, 1, none⟩ (.slice none 0 0)).heap[k]? = w.heap[k]? := fun k hk => Below.heap_setCell _ _ _ _ hk
  have hss : (w.setCell ⟨b, 1, none⟩ (.slice none 0 0)).heap.size = w.heap.size := by simp [World.setCell]
  have hty : ∀ k C (t : TypeId) fr, w.heap[k]? = some (.cells C t fr) → t ≠ 69 → (Value.slice a O.length c).ownBlock ≠ some k := fun k C t fr hk hne e => by
    rcases h3.2 with ⟨hv, -⟩ | ⟨gg, cp, cur', hv, hg, hh, r⟩
    · rw [hv] at e; cases e
    · rw [hv] at e
      have e : gg = _ := Option.some.inj (show some gg = some _ from e)
      rw [e, hk] at hh
      injection hh with hh
      injection hh with _ hh _
      exact hne hh
  have hvb : vb ≠ b := fun e => by
    rw [e, h1] at hv1
    injection hv1 with hv1
    injection hv1 with _ hv1 _
    exact absurd hv1 (by decide)
  refine ⟨a, c, cell_of_row w b 1 _ _ _ h1, by simp [World.frozen?, h1], fun hne => ?_, fun x e => h5 _ (hx x e), fun k => k = b ∨ k = vb, ⟨⟨.slice none 0 0, heap_setCell_same w b 1 _ _ _ h1, ⟨VC, (hso vb hvb).trans hv1, hv2⟩, gor_nil _ _, .inr rfl, fun g e => by cases e⟩, .inl rfl, fun k hk => ?_, fun k hk => ?_⟩, ⟨⟨rfl, rfl, rfl, by rw [hss]; omega, fun k hk => absurd hk (Nat.not_lt_zero _)⟩, fun k _ hf => hso k (fun e => hf (e ▸ h.own)), fun k hk => ?_⟩, fun x e hk => ?_⟩
  · obtain ⟨bb, o, rfl, hb, hc⟩ := ho hne
    have hne2 : bb ≠ b := fun e => hty b _ _ _ h1 (by decide) (by rw [hx _ rfl, e])
    refine ⟨bb, o, rfl, by rw [hss]; exact hb, fun j hj => ?_⟩
    obtain ⟨c1, c2⟩ := hc j hj
    exact ⟨(World.cell?_setCell_other w _ _ _ (fun e => hne2 (by have := congrArg Addr.block e; first | exact this | exact this.symm))).trans c1, (World.cell?_setCell_other w _ _ _ (fun e => hne2 (by have := congrArg Addr.block e; first | exact this | exact this.symm))).trans c2⟩
  · rw [hss]
    rcases hk with rfl | rfl
    · exact h.lt _ h.own
    · exact h.lt _ h4
  · rcases hk with rfl | rfl
    · exact h.low _ h.own
    · exact h.low _ h4
  · rcases hk with rfl | rfl
    · exact .inl h.own
    · exact .inl h4
  · have e2 := hx x e
    rcases hk with hk | hk
    · rw [hk] at e2; exact hty b _ _ _ h1 (by decide) e2
    · rw [hk] at e2; exact hty vb _ _ _ hv1 (by decide) e2

end Go.Proofs.YtbfllifgmlkndaaGreatDoor

namespace Go.Proofs.YtbfllifgmlkndaaGreatDoor
open Go.RowKit
open Slot

theorem run_bout (OC : Array Value) (hs : OC.size = 2) (w : World) : (Instr.buildSlice 47 1 #[(0, .agg OC)]).run Tryz.prog w = .ok (.slice (some ⟨w.heap.size, 0, none⟩) 1 1) (w.alloc (.cells OC 69)) := by
  obtain ⟨i0, z, hi0, hz, hz1, hz2, hzs⟩ := info_out
  refine run_buildSlice w 47 69 1 _ OC i0 z Tryz.underlying47 hi0 hz (by rw [hz1]; decide) (by rw [hz1]; decide) ?_
  rw [hz1]
  generalize hB : (Array.range (1 * 2)).map (z.cells[· % z.cells.size]!) = B
  have hBs : B.size = 2 := by rw [← hB]; simp
  show Instr.fill (fun i => some (i * 2, 2)) B [(0, .agg OC)] = some OC
  simp only [Instr.fill, Value.cells, hs, hBs]
  rw [if_neg (by simp)]
  refine congrArg some ?_
  have := fill_row #[] B OC (by rw [hs, hBs])
  simpa using this
theorem wp_bout {o : Oper} {a : Act} {w : World} {K : Act → World → Prop} {Q : Exit → Act → World → Prop} (x : Operand) (ho : o.op = .buildSlice 47 1 #[(0, x)]) (OC : Array Value) (hx : a.eval x = .agg OC) (hs : OC.size = 2)
    (h : K (a.put o.dst (.slice (some ⟨w.heap.size, 0, none⟩) 1 1)) (w.alloc (.cells OC 69))) : o.wp Tryz.prog a w K Q := by
  unfold Oper.wp execOp
  simp only [ho, List.map_toArray, List.map_cons, List.map_nil, hx, Sem.run_bind, run_bout OC hs w, Result.andThen_ok]
  exact h
theorem Pks.kp {w w' : World} {F F' : Nat → Prop} {a : Option Addr} {L : List Pk} (h : Pks w a L) (hk : Kp F F' w w') (ha : ∀ x, a = some x → ¬ F x.block) : Pks w' a L := fun hne => by
  obtain ⟨b, o, rfl, h1, h2⟩ := h hne
  refine ⟨b, o, rfl, Nat.lt_of_lt_of_le h1 hk.like.size, fun j hj i v hv => ?_⟩
  rw [World.cell?_of_block (w := w) (hk.block b h1 (ha _ rfl))]
  exact h2 j hj i v hv
set_option maxHeartbeats 1000000 in
theorem road_any (b : Nat) (t : Int) (w : World) : Calls Tryz.prog 42 #[.pointer (some ⟨b, 0, none⟩), .int .i64 t] w fun e w' => e = .returned (.agg #[.pointer (some ⟨b, 0, none⟩), .int .i64 t]) ∧ Below w.heap.size w w' := by
  go_enter Tryz.func42, Tryz.ntmps42
  go_wp2
  exact bodyPost_ret (v := .agg #[.pointer (some ⟨b, 0, none⟩), .int .i64 t]) (by simp [results, Tryz.results42, go_sem]) rfl ⟨rfl, (Below.refl _ _).alloc (Nat.le_refl _) _⟩
set_option maxHeartbeats 4000000 in
set_option maxRecDepth 100000 in
theorem lay_any (B b vb : Nat) (F : Nat → Prop) (v : Vw) (O : List (Int × Bs)) (t : Int) (p : Pk) (w : World) (hB : BB B w F b vb v O) (hE : Env w) (hO : O.length ≤ 1000000) :
    Calls Tryz.prog 43 #[.agg #[.pointer (some ⟨b, 0, none⟩), .int .i64 t], .agg (pkCells p)] w fun e w' => (∃ x, e = .returned x) ∧ ∃ F', BB B w' F' b vb v (O ++ [(t, encS p)]) ∧ Kp F F' w w' := by
  have HR0 : Hid (((w.alloc (.cells #[.pointer (some ⟨b, 0, none⟩), .int .i64 t] 101)).alloc (.cells (pkCells p) 53)).heap[w.heap.size]? = some (.cells #[.pointer (some ⟨b, 0, none⟩), .int .i64 t] 101 (0, 0))) := heap_alloc2_old w _ _
  have HP0 : Hid (((w.alloc (.cells #[.pointer (some ⟨b, 0, none⟩), .int .i64 t] 101)).alloc (.cells (pkCells p) 53)).heap[w.heap.size + 1]? = some (.cells (pkCells p) 53 (0, 0))) := heap_alloc2_new w _ _
  have HW0 : Hid (Below w.heap.size w ((w.alloc (.cells #[.pointer (some ⟨b, 0, none⟩), .int .i64 t] 101)).alloc (.cells (pkCells p) 53))) := (below_alloc w _).alloc (by simp) _
  have HB0 := hid (hB.call HW0.out)
  have HE0 := hid (hE.below HW0.out hE.room)
  have HEn := hid (fun W h => encode_any p W h)
  have iP := infoPk p
  have HLt := hid hB.lt
  have HO := hid hO
  obtain ⟨PC, hPC⟩ : ∃ C, pkCells p = C := ⟨_, rfl⟩
  rw [hPC] at HR0 HP0 HW0 HB0 HE0 HEn iP ⊢
  obtain ⟨es, hes⟩ : ∃ s, encS p = s := ⟨_, rfl⟩
  rw [hes] at HEn ⊢
  obtain ⟨ee, hee⟩ : ∃ s, encE p = s := ⟨_, rfl⟩
  rw [hee] at HEn
  clear hPC hes hee hB hE hO
  go_enter Tryz.func43, Tryz.ntmps43
  go_upto_region 1 with fail
  generalize (w.alloc (.cells #[.pointer (some ⟨b, 0, none⟩), .int .i64 t] 101)).alloc (.cells PC 53) = w1 at *
  go_wp2_with (refine wpList_load_row rfl 53 _ rfl (w.heap.size + 1) rfl 53 _ (0, 0) _ HP0.out Tryz.underlying53 rfl iP ?_)
  refine (HEn.out _ HE0.out).mono ?_; rintro r w2 ⟨rfl, hb2⟩
  have HR2 := hid ((hb2.block _ (Array.getElem?_eq_some_iff.1 HR0.out).1).trans HR0.out)
  have HB2 := hid (HB0.out.call hb2)
  have HW2 := hid (HW0.out.trans (hb2.mono HW0.out.size))
  clear hb2 HP0 HB0 HE0 HEn HW0 HR0
  go_upto_region 2 with fail
  refine wp_region_noPanic ?_
  have HB3 := hid HB2.out.drew
  have hlw := (Array.getElem?_eq_some_iff.1 HR2.out).1
  have r20 : w2.drew.cell? ⟨w.heap.size, 0, none⟩ = some (.pointer (some ⟨b, 0, none⟩)) := cell_of_row w2 w.heap.size 0 _ _ _ HR2.out
  have r21 : w2.drew.cell? ⟨w.heap.size, 1, none⟩ = some (.int .i64 t) := cell_of_row w2 w.heap.size 1 _ _ _ HR2.out
  obtain ⟨a1, n1, c1, v', W', q1, hr, q2, q3, q4, ⟨a', n', c', rfl⟩, F', hB', hK'⟩ := bb_push HB3.out HO.out t es
  have HF0 : Hid (¬ F w.heap.size) := fun h => by have := HLt.out _ h; omega
  have e4 := q4 w.heap.size hlw HF0.out
  have r30 : (w2.drew.alloc (.cells #[.int .i64 t, .string ⟨es.toArray⟩] 69)).cell? ⟨w.heap.size, 0, none⟩ = some (.pointer (some ⟨b, 0, none⟩)) := (World.cell?_alloc_some _ _ _ (by rw [r20]; rfl)).trans r20
  have r31 : (w2.drew.alloc (.cells #[.int .i64 t, .string ⟨es.toArray⟩] 69)).cell? ⟨w.heap.size, 1, none⟩ = some (.int .i64 t) := (World.cell?_alloc_some _ _ _ (by rw [r21]; rfl)).trans r21
  have r40 : W'.cell? ⟨w.heap.size, 0, none⟩ = some (.pointer (some ⟨b, 0, none⟩)) := (World.cell?_of_block e4).trans r20
  have r41 : W'.cell? ⟨w.heap.size, 1, none⟩ = some (.int .i64 t) := (World.cell?_of_block e4).trans r21
  have hbw : b ≠ w.heap.size := fun e => HF0.out (e ▸ HB2.out.own)
  have r50 : (W'.setCell ⟨b, 1, none⟩ (.slice a' n' c')).cell? ⟨w.heap.size, 0, none⟩ = some (.pointer (some ⟨b, 0, none⟩)) := (World.cell?_setCell_far _ _ _ _ hbw).trans r40
  have r51 : (W'.setCell ⟨b, 1, none⟩ (.slice a' n' c')).cell? ⟨w.heap.size, 1, none⟩ = some (.int .i64 t) := (World.cell?_setCell_far _ _ _ _ hbw).trans r41
  have HS3 := hid (And.intro r30 r31)
  have HS4 := hid (And.intro r40 r41)
  have HS5 := hid (And.intro r50 r51)
  have HQ := hid (And.intro q2 q3)
  have HRn := hid hr
  have HBf := hid hB'
  have HKf : Hid (Kp F F' w (W'.setCell ⟨b, 1, none⟩ (.slice a' n' c'))) := (Kp.of_below HW2.out.drew (Nat.le_refl _)).trans hK'
  have q1h := hid q1
  clear r30 r31 r40 r41 r50 r51 q2 q3 q4 e4 hr hB' hK' hbw q1 HB3
  refine wp_region_held_drew (S := fun W => W.cell? ⟨w.heap.size, 0, none⟩ = some (.pointer (some ⟨b, 0, none⟩)) ∧ W.cell? ⟨w.heap.size, 1, none⟩ = some (.int .i64 t)) (by kernel_rfl) ⟨r20, r21⟩ (fun hHeld => ?_)
  clear r20 r21
  refine wpAnyH_take (i := 0) (oi := { dst := some 11, op := Op.fieldAddr 101 (Operand.tmp 2) 0, type := 0, pos := "bus.go:79", after := #[], guard := none }) (v := .pointer (some ⟨w.heap.size, 0, none⟩)) rfl (by kernel_rfl) (by kernel_rfl) (by kernel_rfl) (fun _ _ _ h => h) (Or.inl ⟨by rfl, fun wS hSw => ?_⟩) (by assumption) ?_
  · clear hHeld
    clear hSw
    go_simp
  try simp only [Act.put, List.setIfInBounds_toArray, List.set_cons_zero, List.set_cons_succ]
  refine wpAnyH_take (i := 1) (oi := { dst := some 12, op := Op.load 28 (Operand.tmp 11), type := 28, pos := "bus.go:79", after := #[{ on := 0, ground := Ground.data }], guard := none }) (v := .pointer (some ⟨b, 0, none⟩)) rfl (by kernel_rfl) (by kernel_rfl) (by kernel_rfl) (fun _ _ _ h => h) (Or.inl ⟨by rfl, fun wS hSw => ?_⟩) (by assumption) ?_
  · clear hHeld
    obtain ⟨s0, s1⟩ := hSw
    go_simp
  try simp only [Act.put, List.setIfInBounds_toArray, List.set_cons_zero, List.set_cons_succ]
  refine wpAnyH_take (i := 2) (oi := { dst := some 13, op := Op.fieldAddr 101 (Operand.tmp 2) 0, type := 0, pos := "bus.go:79", after := #[], guard := none }) (v := .pointer (some ⟨w.heap.size, 0, none⟩)) rfl (by kernel_rfl) (by kernel_rfl) (by kernel_rfl) (fun _ _ _ h => h) (Or.inl ⟨by rfl, fun wS hSw => ?_⟩) (by assumption) ?_
  · clear hHeld
    clear hSw
    go_simp
  try simp only [Act.put, List.setIfInBounds_toArray, List.set_cons_zero, List.set_cons_succ]
  refine wpAnyH_take (i := 3) (oi := { dst := some 14, op := Op.load 28 (Operand.tmp 13), type := 28, pos := "bus.go:79", after := #[{ on := 2, ground := Ground.data }], guard := none }) (v := .pointer (some ⟨b, 0, none⟩)) rfl (by kernel_rfl) (by kernel_rfl) (by kernel_rfl) (fun _ _ _ h => h) (Or.inl ⟨by rfl, fun wS hSw => ?_⟩) (by assumption) ?_
  · clear hHeld
    obtain ⟨s0, s1⟩ := hSw
    go_simp
  try simp only [Act.put, List.setIfInBounds_toArray, List.set_cons_zero, List.set_cons_succ]
  refine wpAnyH_take (i := 4) (oi := { dst := some 15, op := Op.nilCheck (Operand.tmp 14), type := 0, pos := "bus.go:79", after := #[{ on := 3, ground := Ground.data }], guard := none }) (v := .pointer (some ⟨b, 0, none⟩)) rfl (by kernel_rfl) (by kernel_rfl) (by kernel_rfl) (fun _ _ _ h => h) (Or.inl ⟨by rfl, fun wS hSw => ?_⟩) (by assumption) ?_
  · clear hHeld
    clear hSw
    go_simp
  try simp only [Act.put, List.setIfInBounds_toArray, List.set_cons_zero, List.set_cons_succ]
  refine wpAnyH_take (i := 5) (oi := { dst := some 16, op := Op.fieldAddr 77 (Operand.tmp 15) 1, type := 0, pos := "bus.go:79", after := #[{ on := 4, ground := Ground.data }], guard := none }) (v := .pointer (some ⟨b, 1, none⟩)) rfl (by kernel_rfl) (by kernel_rfl) (by kernel_rfl) (fun _ _ _ h => h) (Or.inl ⟨by rfl, fun wS hSw => ?_⟩) (by assumption) ?_
  · clear hHeld
    clear hSw
    go_simp
  try simp only [Act.put, List.setIfInBounds_toArray, List.set_cons_zero, List.set_cons_succ]
  refine wpAnyH_take (i := 7) (oi := { dst := some 18, op := Op.fieldAddr 101 (Operand.tmp 2) 1, type := 0, pos := "bus.go:79", after := #[], guard := none }) (v := .pointer (some ⟨w.heap.size, 1, none⟩)) rfl (by kernel_rfl) (by kernel_rfl) (by kernel_rfl) (fun _ _ _ h => h) (Or.inl ⟨by rfl, fun wS hSw => ?_⟩) (by assumption) ?_
  · clear hHeld
    clear hSw
    go_simp
  try simp only [Act.put, List.setIfInBounds_toArray, List.set_cons_zero, List.set_cons_succ]
  refine wpAnyH_take (i := 8) (oi := { dst := some 19, op := Op.load 3 (Operand.tmp 18), type := 3, pos := "bus.go:79", after := #[{ on := 7, ground := Ground.data }], guard := none }) (v := .int .i64 t) rfl (by kernel_rfl) (by kernel_rfl) (by kernel_rfl) (fun _ _ _ h => h) (Or.inl ⟨by rfl, fun wS hSw => ?_⟩) (by assumption) ?_
  · clear hHeld
    obtain ⟨s0, s1⟩ := hSw
    go_simp
  try simp only [Act.put, List.setIfInBounds_toArray, List.set_cons_zero, List.set_cons_succ]
  refine wpAnyH_take (i := 9) (oi := { dst := some 20, op := Op.move (Operand.tmp 4), type := 9, pos := "bus.go:79", after := #[], guard := none }) (v := .string ⟨es.toArray⟩) rfl (by kernel_rfl) (by kernel_rfl) (by kernel_rfl) (fun _ _ _ h => h) (Or.inl ⟨by rfl, fun wS hSw => ?_⟩) (by assumption) ?_
  · clear hHeld
    clear hSw
    go_simp
  try simp only [Act.put, List.setIfInBounds_toArray, List.set_cons_zero, List.set_cons_succ]
  refine wpAnyH_take (i := 10) (oi := { dst := some 21, op := Op.build 69 #[(0, Operand.tmp 19), (1, Operand.tmp 20)], type := 69, pos := "bus.go:79", after := #[{ on := 8, ground := Ground.data }, { on := 9, ground := Ground.data }], guard := none }) (v := .agg #[.int .i64 t, .string ⟨es.toArray⟩]) rfl (by kernel_rfl) (by kernel_rfl) (by kernel_rfl) (fun _ _ _ h => h) (Or.inl ⟨by rfl, fun wS hSw => ?_⟩) (by assumption) ?_
  · clear hHeld
    clear hSw
    go_simp
  try simp only [Act.put, List.setIfInBounds_toArray, List.set_cons_zero, List.set_cons_succ]
  refine wpAnyH_ready (rs := [6, 11]) (by kernel_rfl) (by simp) ?_
  refine AllReadyH.cons (o := { dst := some 17, op := Op.load 47 (Operand.tmp 16), type := 47, pos := "bus.go:79", after := #[{ on := 5, ground := Ground.data }], guard := none }) rfl (fun K hK => ?_) (AllReadyH.cons (o := { dst := some 22, op := Op.buildSlice 47 1 #[(0, Operand.tmp 21)], type := 47, pos := "bus.go:79", after := #[{ on := 10, ground := Ground.data }], guard := none }) rfl (fun K hK => ?_) AllReadyH.nil)
  · have q1 := q1h.out
    have hs := hid hHeld
    clear hHeld
    go_simp
    refine hK.out _ _ hs.out (fun hHeld => ?_)
    clear hK K q1 hs
    try simp only [Act.put, List.setIfInBounds_toArray, List.set_cons_zero, List.set_cons_succ]
    refine wpAnyH_ready (rs := [11]) (by kernel_rfl) (by simp) ?_
    refine AllReadyH.cons (o := { dst := some 22, op := Op.buildSlice 47 1 #[(0, Operand.tmp 21)], type := 47, pos := "bus.go:79", after := #[{ on := 10, ground := Ground.data }], guard := none }) rfl (fun K hK => ?_) AllReadyH.nil
    rw [if_pos (by rfl)]
    refine wp_bout _ rfl #[.int .i64 t, .string ⟨es.toArray⟩] rfl rfl ?_
    refine hK.out _ _ HS3.out (fun hHeld => ?_)
    clear hK K
    try simp only [Act.put, List.setIfInBounds_toArray, List.set_cons_zero, List.set_cons_succ]
    refine wpAnyH_ready (rs := [12]) (by kernel_rfl) (by simp) ?_
    refine AllReadyH.cons (o := { dst := some 23, op := Op.call { callee := Callee.builtin Builtin.append, args := #[Operand.tmp 17, Operand.tmp 22], argTypes := #[47, 47] }, type := 47, pos := "bus.go:79", after := #[{ on := 6, ground := Ground.data }, { on := 11, ground := Ground.data }], guard := none }) rfl (fun K hK => ?_) AllReadyH.nil
    rw [if_pos (by rfl)]
    refine wp_app _ _ 47 rfl _ _ rfl rfl HRn.out ?_
    refine hK.out _ _ HS4.out (fun hHeld => ?_)
    clear hK K
    try simp only [Act.put, List.setIfInBounds_toArray, List.set_cons_zero, List.set_cons_succ]
    refine wpAnyH_take (i := 13) (oi := { dst := some 24, op := Op.nilCheck (Operand.tmp 12), type := 0, pos := "bus.go:79", after := #[{ on := 1, ground := Ground.data }, { on := 0, ground := Ground.phase }, { on := 1, ground := Ground.phase }, { on := 2, ground := Ground.phase }, { on := 3, ground := Ground.phase }, { on := 4, ground := Ground.phase }, { on := 5, ground := Ground.phase }, { on := 6, ground := Ground.phase }, { on := 7, ground := Ground.phase }, { on := 8, ground := Ground.phase }, { on := 9, ground := Ground.phase }, { on := 10, ground := Ground.phase }, { on := 11, ground := Ground.phase }, { on := 12, ground := Ground.phase }], guard := none }) (v := .pointer (some ⟨b, 0, none⟩)) rfl (by kernel_rfl) (by kernel_rfl) (by kernel_rfl) (fun _ _ _ h => h) (Or.inl ⟨by rfl, fun wS hSw => ?_⟩) (by assumption) ?_
    · clear hHeld
      clear hSw
      go_simp
    try simp only [Act.put, List.setIfInBounds_toArray, List.set_cons_zero, List.set_cons_succ]
    refine wpAnyH_take (i := 14) (oi := { dst := some 25, op := Op.fieldAddr 77 (Operand.tmp 24) 1, type := 0, pos := "bus.go:79", after := #[{ on := 13, ground := Ground.data }, { on := 0, ground := Ground.phase }, { on := 1, ground := Ground.phase }, { on := 2, ground := Ground.phase }, { on := 3, ground := Ground.phase }, { on := 4, ground := Ground.phase }, { on := 5, ground := Ground.phase }, { on := 6, ground := Ground.phase }, { on := 7, ground := Ground.phase }, { on := 8, ground := Ground.phase }, { on := 9, ground := Ground.phase }, { on := 10, ground := Ground.phase }, { on := 11, ground := Ground.phase }, { on := 12, ground := Ground.phase }], guard := none }) (v := .pointer (some ⟨b, 1, none⟩)) rfl (by kernel_rfl) (by kernel_rfl) (by kernel_rfl) (fun _ _ _ h => h) (Or.inl ⟨by rfl, fun wS hSw => ?_⟩) (by assumption) ?_
    · clear hHeld
      clear hSw
      go_simp
    try simp only [Act.put, List.setIfInBounds_toArray, List.set_cons_zero, List.set_cons_succ]
    refine wpAnyH_ready (rs := [15]) (by kernel_rfl) (by simp) ?_
    refine AllReadyH.cons (o := { dst := none, op := Op.store 47 (Operand.tmp 25) (Operand.tmp 23), type := 0, pos := "bus.go:79", after := #[{ on := 14, ground := Ground.data }, { on := 12, ground := Ground.data }, { on := 12, ground := Ground.chain }, { on := 0, ground := Ground.phase }, { on := 1, ground := Ground.phase }, { on := 2, ground := Ground.phase }, { on := 3, ground := Ground.phase }, { on := 4, ground := Ground.phase }, { on := 5, ground := Ground.phase }, { on := 6, ground := Ground.phase }, { on := 7, ground := Ground.phase }, { on := 8, ground := Ground.phase }, { on := 9, ground := Ground.phase }, { on := 10, ground := Ground.phase }, { on := 11, ground := Ground.phase }, { on := 12, ground := Ground.phase }], guard := none }) rfl (fun K hK => ?_) AllReadyH.nil
    clear hHeld
    obtain ⟨q2, q3⟩ := HQ.out
    go_simp
    refine hK.out _ _ HS5.out (fun hHeld => ?_)
    clear hK K q2 q3
    refine wpAnyH_done (by kernel_rfl) ?_ _
    refine NoPanic.normal ?_
    clear hHeld
    go_wp2_with fail
    go_end0
    exact ⟨⟨_, rfl⟩, F', HBf.out, HKf.out⟩
  · rw [if_pos (by rfl)]
    refine wp_bout _ rfl #[.int .i64 t, .string ⟨es.toArray⟩] rfl rfl ?_
    refine hK.out _ _ HS3.out (fun hHeld => ?_)
    clear hK K
    try simp only [Act.put, List.setIfInBounds_toArray, List.set_cons_zero, List.set_cons_succ]
    refine wpAnyH_ready (rs := [6]) (by kernel_rfl) (by simp) ?_
    refine AllReadyH.cons (o := { dst := some 17, op := Op.load 47 (Operand.tmp 16), type := 47, pos := "bus.go:79", after := #[{ on := 5, ground := Ground.data }], guard := none }) rfl (fun K hK => ?_) AllReadyH.nil
    have q1 : (w2.drew.alloc (.cells #[.int .i64 t, .string ⟨es.toArray⟩] 69)).cell? ⟨b, 1, none⟩ = _ := (World.cell?_alloc_some w2.drew ⟨b, 1, none⟩ (.cells #[.int .i64 t, .string ⟨es.toArray⟩] 69) (by rw [q1h.out]; rfl)).trans q1h.out
    generalize w2.drew.alloc (.cells #[.int .i64 t, .string ⟨es.toArray⟩] 69) = w3 at *
    have hs := hid hHeld
    clear hHeld
    go_simp
    refine hK.out _ _ hs.out (fun hHeld => ?_)
    clear hK K q1 hs
    try simp only [Act.put, List.setIfInBounds_toArray, List.set_cons_zero, List.set_cons_succ]
    refine wpAnyH_ready (rs := [12]) (by kernel_rfl) (by simp) ?_
    refine AllReadyH.cons (o := { dst := some 23, op := Op.call { callee := Callee.builtin Builtin.append, args := #[Operand.tmp 17, Operand.tmp 22], argTypes := #[47, 47] }, type := 47, pos := "bus.go:79", after := #[{ on := 6, ground := Ground.data }, { on := 11, ground := Ground.data }], guard := none }) rfl (fun K hK => ?_) AllReadyH.nil
    rw [if_pos (by rfl)]
    refine wp_app _ _ 47 rfl _ _ rfl rfl HRn.out ?_
    refine hK.out _ _ HS4.out (fun hHeld => ?_)
    clear hK K
    try simp only [Act.put, List.setIfInBounds_toArray, List.set_cons_zero, List.set_cons_succ]
    refine wpAnyH_take (i := 13) (oi := { dst := some 24, op := Op.nilCheck (Operand.tmp 12), type := 0, pos := "bus.go:79", after := #[{ on := 1, ground := Ground.data }, { on := 0, ground := Ground.phase }, { on := 1, ground := Ground.phase }, { on := 2, ground := Ground.phase }, { on := 3, ground := Ground.phase }, { on := 4, ground := Ground.phase }, { on := 5, ground := Ground.phase }, { on := 6, ground := Ground.phase }, { on := 7, ground := Ground.phase }, { on := 8, ground := Ground.phase }, { on := 9, ground := Ground.phase }, { on := 10, ground := Ground.phase }, { on := 11, ground := Ground.phase }, { on := 12, ground := Ground.phase }], guard := none }) (v := .pointer (some ⟨b, 0, none⟩)) rfl (by kernel_rfl) (by kernel_rfl) (by kernel_rfl) (fun _ _ _ h => h) (Or.inl ⟨by rfl, fun wS hSw => ?_⟩) (by assumption) ?_
    · clear hHeld
      clear hSw
      go_simp
    try simp only [Act.put, List.setIfInBounds_toArray, List.set_cons_zero, List.set_cons_succ]
    refine wpAnyH_take (i := 14) (oi := { dst := some 25, op := Op.fieldAddr 77 (Operand.tmp 24) 1, type := 0, pos := "bus.go:79", after := #[{ on := 13, ground := Ground.data }, { on := 0, ground := Ground.phase }, { on := 1, ground := Ground.phase }, { on := 2, ground := Ground.phase }, { on := 3, ground := Ground.phase }, { on := 4, ground := Ground.phase }, { on := 5, ground := Ground.phase }, { on := 6, ground := Ground.phase }, { on := 7, ground := Ground.phase }, { on := 8, ground := Ground.phase }, { on := 9, ground := Ground.phase }, { on := 10, ground := Ground.phase }, { on := 11, ground := Ground.phase }, { on := 12, ground := Ground.phase }], guard := none }) (v := .pointer (some ⟨b, 1, none⟩)) rfl (by kernel_rfl) (by kernel_rfl) (by kernel_rfl) (fun _ _ _ h => h) (Or.inl ⟨by rfl, fun wS hSw => ?_⟩) (by assumption) ?_
    · clear hHeld
      clear hSw
      go_simp
    try simp only [Act.put, List.setIfInBounds_toArray, List.set_cons_zero, List.set_cons_succ]
    refine wpAnyH_ready (rs := [15]) (by kernel_rfl) (by simp) ?_
    refine AllReadyH.cons (o := { dst := none, op := Op.store 47 (Operand.tmp 25) (Operand.tmp 23), type := 0, pos := "bus.go:79", after := #[{ on := 14, ground := Ground.data }, { on := 12, ground := Ground.data }, { on := 12, ground := Ground.chain }, { on := 0, ground := Ground.phase }, { on := 1, ground := Ground.phase }, { on := 2, ground := Ground.phase }, { on := 3, ground := Ground.phase }, { on := 4, ground := Ground.phase }, { on := 5, ground := Ground.phase }, { on := 6, ground := Ground.phase }, { on := 7, ground := Ground.phase }, { on := 8, ground := Ground.phase }, { on := 9, ground := Ground.phase }, { on := 10, ground := Ground.phase }, { on := 11, ground := Ground.phase }, { on := 12, ground := Ground.phase }], guard := none }) rfl (fun K hK => ?_) AllReadyH.nil
    clear hHeld
    obtain ⟨q2, q3⟩ := HQ.out
    go_simp
    refine hK.out _ _ HS5.out (fun hHeld => ?_)
    clear hK K q2 q3
    refine wpAnyH_done (by kernel_rfl) ?_ _
    refine NoPanic.normal ?_
    clear hHeld
    go_wp2_with fail
    go_end0
    exact ⟨⟨_, rfl⟩, F', HBf.out, HKf.out⟩

end Go.Proofs.YtbfllifgmlkndaaGreatDoor

namespace Go.Proofs.YtbfllifgmlkndaaGreatDoor
open Go.RowKit
open Slot

theorem out_shape {B : Nat} {W : World} {v : Value} {L : List (Int × Bs)} (h : OutR B W v L) : ∃ a c, v = .slice a L.length c := by
  rcases h.2 with ⟨rfl, h0⟩ | ⟨g, cap, _, rfl, _⟩
  · exact ⟨none, 0, by rw [h0]⟩
  · exact ⟨_, _, rfl⟩
/-- laid, on its way -/
structure La (w wr : World) (me g cap cur : Nat) (v1 : Value) (x : Option Addr) (L : List Pk) (v : Value) (O : List (Int × Bs)) : Prop where
  rb : wr.heap[w.heap.size]? = some (.cells (rbc me g cap cur v1) 41 (0, 0))
  res : ∃ C, wr.heap[w.heap.size + 1]? = some (.cells C 41 (0, 0)) ∧ C.size = 4
  pk : Pks wr x L
  out : OutR (w.heap.size + 2) wr v O
  bel : Below w.heap.size w wr
  sz : w.heap.size + 2 ≤ wr.heap.size
theorem La.fresh {w wr w' : World} {self g cap cur : Nat} {v1 : Value} {x : Option Addr} {L : List Pk} {v v' : Value} {O O' : List (Int × Bs)} (h : La w wr self g cap cur v1 x L v O) (hb : Below (w.heap.size + 2) wr w') (hx : ∀ a, x = some a → a.block < w.heap.size) (ho : OutR (w.heap.size + 2) w' v' O') : La w w' self g cap cur v1 x L v' O' := by
  obtain ⟨C, e, hs⟩ := h.res
  refine ⟨(hb.block _ (by omega)).trans h.rb, ⟨C, (hb.block _ (by omega)).trans e, hs⟩, h.pk.below hb (fun a e => by have := hx a e; omega), ho, h.bel.trans (hb.mono (by omega)), Nat.le_trans h.sz hb.size⟩
theorem rbc_one (self g cap cur : Nat) (v : Value) (hv : v.oneCell' = true) : (rbc self g cap cur v).all (·.oneCell') = true := by simp [rbc, hv]; simp [Value.oneCell']
end Go.Proofs.YtbfllifgmlkndaaGreatDoor

namespace Go.Proofs.YtbfllifgmlkndaaGreatDoor
open Go.RowKit
open Slot

/-- is it taken in? -/
noncomputable def bTake (v : Vw) (s : Bs) : Bool := decide (decE s = 0) && decide ((decPk s).frm ≠ v.self)
noncomputable def bView (v : Vw) (s : Bs) : Vw := if bTake v s = true then takeV v (decPk s) else v
noncomputable def bOut (v : Vw) (s : Bs) : List (Int × Bs) := if bTake v s = true then outs (decPk s).frm (answV v (decPk s)) else []
theorem outr_apart {B b : Nat} {W : World} {v : Value} {L : List (Int × Bs)} {C C' : Array Value} {fr : Nat × Nat} (h : OutR B W v L) (hb : W.heap[b]? = some (.cells C' 41 fr)) : OutR B (W.setRow b C) v L := by
  obtain ⟨h1, h2⟩ := h
  refine ⟨h1, ?_⟩
  rcases h2 with h2 | ⟨gg, cp, cur', hv, hg, hh, r⟩
  · exact .inl h2
  · refine .inr ⟨gg, cp, cur', hv, hg, (setRow_other _ _ _ _ (fun e => ?_)).trans hh, r⟩
    rw [e, hb] at hh
    injection hh with h1
    injection h1 with _ h3
    cases h3
theorem nd_apart {W : World} {g b : Nat} {E : Nat → Nat} {K : Nat → Nat → Bool} {C' : Array Value} {fr : Nat × Nat} (h : Nd W g E K) (hb : W.heap[b]? = some (.cells C' 41 fr)) : g ≠ b := fun e => by
  obtain ⟨C, hC, -⟩ := h
  rw [e, hb] at hC
  injection hC with h1
  injection h1 with _ h3
  cases h3
theorem outr_turn {B : Nat} {W W' : World} {v : Value} {L : List (Int × Bs)} (h : OutR B W v L) (hb : ∀ (k : Nat) (C : Array Value) (fr : Nat × Nat), W.heap[k]? = some (.cells C 91 fr) → W'.heap[k]? = W.heap[k]?) : OutR B W' v L := by
  obtain ⟨h1, h2⟩ := h
  refine ⟨h1, ?_⟩
  rcases h2 with h2 | ⟨gg, cp, cur', hv, hg, hh, r⟩
  · exact .inl h2
  · exact .inr ⟨gg, cp, cur', hv, hg, (hb gg _ _ hh).trans hh, r⟩
theorem answ_len2 (v : Vw) (p : Pk) : (answV v p).length ≤ 2 := by
  unfold answV
  split
  · unfold outV
    split <;> split <;> simp
  · exact Nat.zero_le _
end Go.Proofs.YtbfllifgmlkndaaGreatDoor
