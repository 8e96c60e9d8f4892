/- BuSame, BpMem, BpLay, VwNewNo, VpN. -/
import Derived.Test.YtbfllifgmlkndaaGreatDoorM28
import Derived.Test.YtbfllifgmlkndaaGreatDoorM19
import Derived.Test.YtbfllifgmlkndaaGreatDoorM04
import Derived.Deep.RegionHeld3
import Derived.Test.YtbfllifgmlkndaaGreatDoorM27
import Derived.Test.YtbfllifgmlkndaaGreatDoorM13
import Derived.Test.YtbfllifgmlkndaaGreatDoorM24
import Derived.Laws.Tables
import Derived.Test.YtbfllifgmlkndaaGreatDoorM22
namespace Go.Proofs.YtbfllifgmlkndaaGreatDoor
open Go.RowKit
open Slot

/-- a row of what goes out that may be read -/
def OutB (w : World) (a : Option Addr) (L : List (Int × Bs)) : Prop := L ≠ [] → ∃ b o, a = some ⟨b, o, none⟩ ∧ b < w.heap.size ∧ ∀ j (h : j < L.length), w.cell? ⟨b, o + j * 2, none⟩ = some (.int .i64 L[j].1) ∧ w.cell? ⟨b, o + j * 2 + 1, none⟩ = some (.string ⟨L[j].2.toArray⟩)
set_option maxHeartbeats 4000000 in
set_option maxRecDepth 100000 in
theorem bsame_any (a1 a2 : Option Addr) (L : List (Int × Bs)) (n c1 c2 : Nat) (w : World) (hn : L.length = n) (h1 : OutB w a1 L) (h2 : OutB w a2 L) (hm : n ≤ 1000000) :
    Calls Tryz.prog 12 #[.slice a1 n c1, .slice a2 n c2] w fun e w' => e = .returned (.bool true) ∧ Below w.heap.size w w' := by
  have H1 := hid h1
  have H2 := hid h2
  have HN := hid hn
  have hz : (n : Int) ≤ 1000000 := by omega
  clear h1 h2 hn
  go_enter Tryz.func12, Tryz.ntmps12
  go_wp2_with fail
  go_loopw [13] (fun i wr => ∃ k : Nat, k ≤ n ∧ i = .int .i64 k ∧ Hid (Below w.heap.size w wr)) (fun i _ => n - (intOf i).toNat)
  case atStart => exact ⟨0, by omega, rfl, Below.refl _ _⟩
  case round =>
    obtain ⟨k, hk, rfl, HW⟩ := hrel
    by_cases hlt : k < n
    · have hkz : (k : Int) < (n : Int) := by omega
      have hkL : k < L.length := by have := HN.out; omega
      obtain ⟨b1, o1, rfl, hb1, hc1⟩ := H1.out (fun e => by rw [e] at hkL; exact absurd hkL (Nat.not_lt_zero _))
      obtain ⟨b2, o2, rfl, hb2, hc2⟩ := H2.out (fun e => by rw [e] at hkL; exact absurd hkL (Nat.not_lt_zero _))
      obtain ⟨z, hzk⟩ : ∃ z, L[k] = z := ⟨_, rfl⟩
      obtain ⟨p1, p2⟩ := hc1 k hkL
      obtain ⟨q1, q2⟩ := hc2 k hkL
      rw [hzk] at p1 p2 q1 q2
      obtain ⟨Z, hZ⟩ : ∃ Z : ByteArray, ⟨z.2.toArray⟩ = Z := ⟨_, rfl⟩
      rw [hZ] at p2 q2
      have HD := hid HW.out.drew
      have r1 : wr.drew.cell? ⟨b1, o1 + k * 2, none⟩ = some (.int .i64 z.1) := (HD.out.cell (p := ⟨b1, o1 + k * 2, none⟩) hb1).trans p1
      have r2 : wr.drew.cell? ⟨b1, o1 + k * 2 + 1, none⟩ = some (.string Z) := (HD.out.cell (p := ⟨b1, o1 + k * 2 + 1, none⟩) hb1).trans p2
      have r3 : wr.drew.cell? ⟨b2, o2 + k * 2, none⟩ = some (.int .i64 z.1) := (HD.out.cell (p := ⟨b2, o2 + k * 2, none⟩) hb2).trans q1
      have r4 : wr.drew.cell? ⟨b2, o2 + k * 2 + 1, none⟩ = some (.string Z) := (HD.out.cell (p := ⟨b2, o2 + k * 2 + 1, none⟩) hb2).trans q2
      clear hzk hZ hc1 hc2 p1 p2 q1 q2 hkL
      go_upto_region 6 with fail
      go_region
      generalize wr.drew = w3 at *
      go_wp2_with fail
      go_roundw
      case rel => exact ⟨k + 1, by omega, by go_num, HD.out⟩
      case measure => simp [intOf]; omega
    · obtain rfl : k = n := by omega
      go_wp2_with fail
      go_ret
      exact ⟨rfl, HW.out⟩
theorem flatO_get : ∀ (L : List (Int × Bs)) (j : Nat) (h : j < L.length), (flatO L)[j * 2]? = some (.int .i64 L[j].1) ∧ (flatO L)[j * 2 + 1]? = some (.string ⟨L[j].2.toArray⟩)
  | [], j, h => absurd h (Nat.not_lt_zero _)
  | o :: L, 0, _ => ⟨rfl, rfl⟩
  | o :: L, j + 1, h => by
    have := flatO_get L j (by simpa using h)
    have e : flatO (o :: L) = .int .i64 o.1 :: .string ⟨o.2.toArray⟩ :: flatO L := rfl
    rw [e, show (j + 1) * 2 = j * 2 + 1 + 1 by omega, show j * 2 + 1 + 1 + 1 = (j * 2 + 1) + 1 + 1 by omega]
    simpa using this
theorem outr_out {B : Nat} {w : World} {v : Value} {L : List (Int × Bs)} (h : OutR B w v L) : ∃ a c, v = .slice a L.length c ∧ OutB w a L := by
  rcases h.2 with ⟨rfl, h0⟩ | ⟨g, cap, cur, rfl, hg, hh, h1, h2, h3, h4⟩
  · exact ⟨none, 0, by rw [h0], fun hne => absurd (List.length_eq_zero_iff.1 h0) hne⟩
  · refine ⟨_, cap, rfl, fun hne => ⟨g, 0, rfl, (Array.getElem?_eq_some_iff.1 hh).1, fun j hj => ?_⟩⟩
    obtain ⟨e1, e2⟩ := flatO_get L j hj
    rw [Nat.zero_add, cell_of_row _ _ _ _ _ _ hh, cell_of_row _ _ _ _ _ _ hh]
    have key : ∀ i, i < L.length * 2 → cur[i]? = (flatO L)[i]? := fun i hi => by
      have := congrArg (fun l : List Value => l[i]?) h4
      simp only [List.getElem?_take] at this
      rw [if_pos hi] at this
      simpa using this
    exact ⟨(key _ (by omega)).trans e1, (key _ (by omega)).trans e2⟩

end Go.Proofs.YtbfllifgmlkndaaGreatDoor

namespace Go.Proofs.YtbfllifgmlkndaaGreatDoor
open Go.RowKit
open Slot

/-- a row of what goes out, of a call's own or of an earlier one's -/
def GoR (B : Nat) (W : World) (v : Value) (L : List (Int × Bs)) : Prop := W.ownsRow B 69 2 v L.length (flatO L)
theorem gor_nil (B : Nat) (W : World) : GoR B W (.slice none 0 0) [] := World.ownsRow_nil _ _ _ _
theorem GoR.shape {B : Nat} {W : World} {v : Value} {L : List (Int × Bs)} (h : GoR B W v L) : ∃ a c, v = .slice a L.length c := by
  rcases h.2 with ⟨rfl, h0⟩ | ⟨g, cap, _, rfl, _⟩
  · exact ⟨none, 0, by rw [h0]⟩
  · exact ⟨_, _, rfl⟩
theorem GoR.lt {B : Nat} {W : World} {v : Value} {L : List (Int × Bs)} (h : GoR B W v L) {g : Nat} (hg : v.ownBlock = some g) : B ≤ g ∧ g < W.heap.size := World.ownsRow.lt h g hg
theorem GoR.turn {B : Nat} {W W' : World} {v : Value} {L : List (Int × Bs)} (h : GoR B W v L) (hb : ∀ g, v.ownBlock = some g → W'.heap[g]? = W.heap[g]?) : GoR B W' v L := by
  obtain ⟨h1, h2⟩ := h
  refine ⟨h1, ?_⟩
  rcases h2 with h2 | ⟨gg, cp, cur', hv, hg, hh, r⟩
  · exact .inl h2
  · exact .inr ⟨gg, cp, cur', hv, hg, (hb gg (by rw [hv]; rfl)).trans hh, r⟩
theorem GoR.out {B : Nat} {w : World} {v : Value} {L : List (Int × Bs)} (h : GoR B w v L) : ∃ a c, v = .slice a L.length c ∧ OutB w a L ∧ ∀ x, a = some x → v.ownBlock = some x.block := by
  rcases h.2 with ⟨rfl, h0⟩ | ⟨g, cap, cur, rfl, hg, hh, h1, h2, h3, h4⟩
  · exact ⟨none, 0, by rw [h0], fun hne => absurd (List.length_eq_zero_iff.1 h0) hne, fun x e => by cases e⟩
  · refine ⟨_, cap, rfl, fun hne => ⟨g, 0, rfl, (Array.getElem?_eq_some_iff.1 hh).1, fun j hj => ?_⟩, fun x e => by cases e; rfl⟩
    obtain ⟨e1, e2⟩ := flatO_get L j hj
    rw [Nat.zero_add, cell_of_row _ _ _ _ _ _ hh, cell_of_row _ _ _ _ _ _ hh]
    have key : ∀ i, i < L.length * 2 → cur[i]? = (flatO L)[i]? := fun i hi => by
      have := congrArg (fun l : List Value => l[i]?) h4
      simp only [List.getElem?_take] at this
      rw [if_pos hi] at this
      simpa using this
    exact ⟨(key _ (by omega)).trans e1, (key _ (by omega)).trans e2⟩
theorem infoOut : (Tryz.prog.info? 69).map (fun i => (i.zero.isSome, i.size, i.bytes)) = some (true, 2, 24) := by kernel_rfl
theorem zeroOut : ((Tryz.prog.info? 69).bind (fun i => i.zero)).map (fun z => z.cells.size) = some 2 := by kernel_rfl
theorem info_out : ∃ i0 z, Tryz.prog.info? 69 = some i0 ∧ i0.zero = some z ∧ i0.size = 2 ∧ i0.bytes = 24 ∧ z.cells.size = 2 := by
  have hi := infoOut
  cases hi0 : Tryz.prog.info? 69 with
  | none => rw [hi0] at hi; cases hi
  | some i0 =>
    rw [hi0] at hi
    simp only [Option.map_some, Option.some.injEq, Prod.mk.injEq] at hi
    obtain ⟨hz0, hz1, hz2⟩ := hi
    obtain ⟨z, hz⟩ := Option.isSome_iff_exists.1 hz0
    refine ⟨i0, z, rfl, hz, hz1, hz2, ?_⟩
    have hk := zeroOut
    rw [hi0, Option.bind_some, hz] at hk
    simpa using hk
/-- one more goes out: where the row lies behind -/
theorem gor_push {B : Nat} {W : World} {v : Value} {L : List (Int × Bs)} (h : GoR B W v L) (hB : B ≤ W.heap.size) (hl : L.length ≤ 1000000) (x : Nat) (t : Int) (s : Bs) (hx : W.heap[x]? = some (.cells #[.int .i64 t, .string ⟨s.toArray⟩] 69 (0, 0))) :
    ∃ v' W', (Builtin.append_ #[47, 47] 47 #[v, .slice (some ⟨x, 0, none⟩) 1 1]).run Tryz.prog W = .ok v' W' ∧ GoR B W' v' (L ++ [(t, s)]) ∧ W.grownBy W' v.ownBlock ∧ (∀ g, v'.ownBlock = some g → v.ownBlock = some g ∨ g = W.heap.size) := by
  obtain ⟨i0, z, hi0, hz, hz1, hz2, hzs⟩ := info_out
  have hl2 : (flatO [(t, s)]).length = 1 * 2 := rfl
  have hnews : ∀ j u, (flatO [(t, s)])[j]? = some u → W.cell? ((⟨x, 0, none⟩ : Addr).add j) = some u := fun j u hj => by
    rw [Go.WideShapes.add_plain, Nat.zero_add, cell_of_row W x j _ _ _ hx]
    match j, hj with
    | 0, hj => exact hj
    | 1, hj => exact hj
  have h1 := flatO_one [(t, s)]
  obtain ⟨v', W', hrun, ho, hgr, -⟩ := run_append_own (P := Tryz.prog) W B 47 47 69 i0 z 2 24 Tryz.underlying47 hi0 hz hz1 hz2 hzs (by decide) _ _ _ h ⟨x, 0, none⟩ 1 1 (flatO [(t, s)]) hl2 hnews h1 (by unfold maxLen; omega) (by omega) hB
  refine ⟨v', W', hrun, ?_, hgr, ?_⟩
  · show World.ownsRow _ _ _ _ _ _ _
    rw [List.length_append, flatO_app]
    exact ho
  · have hl' : (flatO [(t, s)]).length = 1 * i0.size := by rw [hz1]; rfl
    rcases h.2 with ⟨rfl, h0⟩ | ⟨g, cap, cur, rfl, hbg, hg, hnc, hcm, hcs, htake⟩
    · have hr := run_append_nil (P := Tryz.prog) W 47 47 69 i0 _ Tryz.underlying47 hi0 hz ⟨x, 0, none⟩ 1 1 (flatO [(t, s)]) hl' hnews (by omega) (by omega) (by rw [hz2]; omega)
      rw [hr] at hrun
      injection hrun with hrun _
      rw [← hrun]
      intro g e
      exact .inr (Option.some.inj (show some W.heap.size = some g from e)).symm
    · by_cases hroom : L.length + 1 ≤ cap
      · have hr := run_append_room (P := Tryz.prog) W 47 47 69 i0 Tryz.underlying47 hi0 g L.length cap cur hg ⟨x, 0, none⟩ 1 1 (flatO [(t, s)]) hl' hnews h1 hroom (by rw [hl', hcs, hz1]; omega)
        rw [hr] at hrun
        injection hrun with hrun _
        rw [← hrun]
        exact fun _ e => .inl e
      · have holds : ∀ j u, (flatO L)[j]? = some u → W.cell? ((⟨g, 0, none⟩ : Addr).add j) = some u := World.ownsRow.cells h (g := g) rfl
        have hr := run_append_grow (P := Tryz.prog) W 47 47 69 i0 _ Tryz.underlying47 hi0 hz ⟨g, 0, none⟩ L.length cap (flatO L) (by rw [hz1]; exact h.1) holds ⟨x, 0, none⟩ 1 1 (flatO [(t, s)]) hl' hnews (by omega) (by omega) (growslice_fits (by omega) (by rw [hz2]; omega))
        rw [hr] at hrun
        injection hrun with hrun _
        rw [← hrun]
        intro g' e
        exact .inr (Option.some.inj (show some W.heap.size = some g' from e)).symm

/-- a bus, as cells -/
def bkC (vb : Nat) (rv : Value) : Array Value := #[.pointer (some ⟨vb, 0, none⟩), rv]
/-- a bus in block b: what it knows, what goes out; F: the blocks that are its own, all from B on -/
structure BB (B : Nat) (w : World) (F : Nat → Prop) (b vb : Nat) (v : Vw) (O : List (Int × Bs)) : Prop where
  ex : ∃ rv, w.heap[b]? = some (.cells (bkC vb rv) 77 (0, 0)) ∧ VB w vb v ∧ GoR B w rv O ∧ F vb ∧ ∀ g, rv.ownBlock = some g → F g
  own : F b
  lt : ∀ k, F k → k < w.heap.size
  low : ∀ k, F k → B ≤ k
/-- what a call leaves alone -/
structure Kp (F F' : Nat → Prop) (w w' : World) : Prop where
  like : Below 0 w w'
  block : ∀ k, k < w.heap.size → ¬ F k → w'.heap[k]? = w.heap[k]?
  foot : ∀ k, F' k → F k ∨ w.heap.size ≤ k
theorem Kp.refl (F : Nat → Prop) (w : World) : Kp F F w w := ⟨Below.refl _ _, fun _ _ _ => rfl, fun _ h => .inl h⟩
theorem Kp.trans {F G H : Nat → Prop} {x y z : World} (h : Kp F G x y) (k : Kp G H y z) : Kp F H x z :=
  ⟨h.like.trans k.like, fun i hi hf => (k.block i (Nat.lt_of_lt_of_le hi h.like.size) (fun c => (h.foot i c).elim hf (fun c => by omega))).trans (h.block i hi hf), fun i hi =>
    (k.foot i hi).elim (h.foot i) (fun c => .inr (Nat.le_trans h.like.size c))⟩
theorem Kp.of_below {F : Nat → Prop} {n : Nat} {w w' : World} (h : Below n w w') (hn : w.heap.size ≤ n) : Kp F F w w' :=
  ⟨h.mono (Nat.zero_le _), fun k hk _ => h.block k (Nat.lt_of_lt_of_le hk hn), fun _ h => .inl h⟩
theorem Kp.below {F G : Nat → Prop} {n : Nat} {w w' : World} (h : Kp F G w w') (hF : ∀ k, F k → n ≤ k) (hn : n ≤ w.heap.size) : Below n w w' :=
  ⟨h.like.os, h.like.tape, h.like.output, h.like.size, fun k hk => h.block k (Nat.lt_of_lt_of_le hk hn) (fun c => by have := hF k c; omega)⟩
theorem Kp.env {F G : Nat → Prop} {w w' : World} (h : Kp F G w w') (hE : Env w) (hF : ∀ k, F k → 7 ≤ k) : Env w' := hE.below (h.below hF hE.room) (Nat.le_refl _)
theorem BB.below {B n : Nat} {w w' : World} {F : Nat → Prop} {b vb : Nat} {v : Vw} {O : List (Int × Bs)} (h : BB B w F b vb v O) (hb : Below n w w') (hn : ∀ k, F k → k < n) : BB B w' F b vb v O := by
  obtain ⟨rv, h1, h2, h3, h4, h5⟩ := h.ex
  refine ⟨⟨rv, (hb.block _ (hn _ h.own)).trans h1, h2.below hb (hn _ h4), h3.turn (fun g e => hb.block _ (hn _ (h5 g e))), h4, h5⟩, h.own, fun k hk => Nat.lt_of_lt_of_le (h.lt k hk) hb.size, h.low⟩
theorem BB.call {B : Nat} {w w' : World} {F : Nat → Prop} {b vb : Nat} {v : Vw} {O : List (Int × Bs)} (h : BB B w F b vb v O) (hb : Below w.heap.size w w') : BB B w' F b vb v O := h.below hb h.lt
/-- another one's call is not seen -/
theorem BB.keep {B : Nat} {w w' : World} {F G G' : Nat → Prop} {b vb : Nat} {v : Vw} {O : List (Int × Bs)} (h : BB B w F b vb v O) (hk : Kp G G' w w') (hd : ∀ k, F k → ¬ G k) : BB B w' F b vb v O := by
  obtain ⟨rv, h1, h2, h3, h4, h5⟩ := h.ex
  have key : ∀ k, F k → w'.heap[k]? = w.heap[k]? := fun k hf => hk.block k (h.lt k hf) (hd k hf)
  exact ⟨⟨rv, (key _ h.own).trans h1, h2.turn (key _ h4), h3.turn (fun g e => key _ (h5 g e)), h4, h5⟩, h.own, fun k hf => Nat.lt_of_lt_of_le (h.lt k hf) hk.like.size, h.low⟩
theorem BB.drew {B : Nat} {w : World} {F : Nat → Prop} {b vb : Nat} {v : Vw} {O : List (Int × Bs)} (h : BB B w F b vb v O) : BB B w.drew F b vb v O := h.call (Below.refl _ _).drew

/-- one more goes out: what of the bus is read and written on the way, and what it is behind -/
theorem bb_push {B : Nat} {w : World} {F : Nat → Prop} {b vb : Nat} {v : Vw} {O : List (Int × Bs)} (h : BB B w F b vb v O) (hl : O.length ≤ 1000000) (t : Int) (s : Bs) :
    ∃ a n c v' W', w.cell? ⟨b, 1, none⟩ = some (.slice a n c) ∧ (Builtin.append_ #[47, 47] 47 #[.slice a n c, .slice (some ⟨w.heap.size, 0, none⟩) 1 1]).run Tryz.prog (w.alloc (.cells #[.int .i64 t, .string ⟨s.toArray⟩] 69)) = .ok v' W' ∧
      W'.cell? ⟨b, 1, none⟩ = some (.slice a n c) ∧ W'.frozen? ⟨b, 1, none⟩ = false ∧ (∀ k, k < w.heap.size → ¬ F k → W'.heap[k]? = w.heap[k]?) ∧ (∃ a' n' c', v' = .slice a' n' c') ∧
      ∃ F', BB B (W'.setCell ⟨b, 1, none⟩ v') F' b vb v (O ++ [(t, s)]) ∧ Kp F F' w (W'.setCell ⟨b, 1, none⟩ v') := by
  obtain ⟨rv, h1, h2, h3, h4, h5⟩ := h.ex
  have hbw := h.lt b h.own
  have hvw := h.lt vb h4
  have hBb := h.low b h.own
  have hal := below_alloc w (.cells #[.int .i64 t, .string ⟨s.toArray⟩] 69)
  have hsz : (w.alloc (.cells #[.int .i64 t, .string ⟨s.toArray⟩] 69)).heap.size = w.heap.size + 1 := by simp
  have h3' : GoR B (w.alloc (.cells #[.int .i64 t, .string ⟨s.toArray⟩] 69)) rv O := h3.turn (fun g e => hal.block g (h.lt g (h5 g e)))
  obtain ⟨v', W', hr, hg, hgr, hwh⟩ := gor_push h3' (by rw [hsz]; omega) hl w.heap.size t s (heap_alloc_new w _)
  obtain ⟨a, c, rfl⟩ := h3.shape
  have hold : ∀ k, k < w.heap.size → (Value.slice a O.length c).ownBlock ≠ some k → W'.heap[k]? = w.heap[k]? := fun k hk hne =>
    (hgr.block k (by rw [hsz]; omega) (fun e => hne e.symm)).trans (hal.block k hk)
  have hob : ∀ k C (t : TypeId) fr, w.heap[k]? = some (.cells C t fr) → t ≠ 69 → (Value.slice a O.length c).ownBlock ≠ some k := fun k C t fr hk hne e => by
    rcases h3.2 with ⟨hv, -⟩ | ⟨gg, cp, cur', hv, hg, hh, r⟩
    · rw [hv] at e; cases e
    · rw [hv] at e
      have e : gg = _ := Option.some.inj (show some gg = some _ from e)
      rw [e, hk] at hh
      injection hh with hh
      injection hh with _ hh _
      exact hne hh
  have e1 : W'.heap[b]? = some (.cells (bkC vb (.slice a O.length c)) 77 (0, 0)) := (hold b hbw (hob b _ _ _ h1 (by decide))).trans h1
  obtain ⟨VC, hv1, hv2⟩ := h2
  have e2 : W'.heap[vb]? = w.heap[vb]? := hold vb hvw (hob vb _ _ _ hv1 (by decide))
  have hvb : vb ≠ b := fun e => by
    rw [e, h1] at hv1
    injection hv1 with hv1
    injection hv1 with _ hv1 _
    exact absurd hv1 (by decide)
  have hs' : W'.heap.size ≥ w.heap.size + 1 := by have := hgr.size; omega
  have e3 : (W'.setCell ⟨b, 1, none⟩ v').heap[b]? = some (.cells (bkC vb v') 77 (0, 0)) := heap_setCell_same W' b 1 _ _ _ e1
  have hso : ∀ k, k ≠ b → (W'.setCell ⟨b, 1, none⟩ v').heap[k]? = W'.heap[k]? := fun k hk => Below.heap_setCell _ _ _ _ hk
  have hss : (W'.setCell ⟨b, 1, none⟩ v').heap.size = W'.heap.size := by simp [World.setCell]
  have hgb : ∀ g, v'.ownBlock = some g → g ≠ b := fun g e e' => by
    rcases hg.2 with ⟨hv, -⟩ | ⟨gg, cp, cur', hv, _, hh, _⟩
    · rw [hv] at e; cases e
    · rw [hv] at e
      have e : gg = _ := Option.some.inj (show some gg = some _ from e)
      rw [e, e', e1] at hh
      injection hh with hh
      injection hh with _ hh _
      exact absurd hh (by decide)
  obtain ⟨a', c', hv'⟩ := hg.shape
  refine ⟨a, O.length, c, v', W', cell_of_row w b 1 _ _ _ h1, hr, cell_of_row W' b 1 _ _ _ e1, by simp [World.frozen?, e1], fun k hk hf => hold k hk (fun e => hf (h5 k e)), ⟨a', _, c', hv'⟩, fun k => k = b ∨ k = vb ∨ v'.ownBlock = some k, ?_, ?_⟩
  · refine ⟨⟨v', e3, ⟨VC, (hso vb hvb).trans (e2.trans hv1), hv2⟩, hg.turn (fun g e => hso g (hgb g e)), .inr (.inl rfl), fun g e => .inr (.inr e)⟩, .inl rfl, fun k hk => ?_, fun k hk => ?_⟩
    · rw [hss]
      rcases hk with rfl | rfl | e
      · omega
      · omega
      · exact (hg.lt e).2
    · rcases hk with rfl | rfl | e
      · exact hBb
      · exact h.low _ h4
      · exact (hg.lt e).1
  · refine ⟨⟨hgr.os.trans hal.os, hgr.tape.trans hal.tape, hgr.output.trans hal.output, by rw [hss]; omega, fun k hk => absurd hk (Nat.not_lt_zero _)⟩, fun k hk hf => (hso k (fun e => hf (e ▸ h.own))).trans (hold k hk (fun e => hf (h5 k e))), fun k hk => ?_⟩
    rcases hk with rfl | rfl | e
    · exact .inl h.own
    · exact .inl h4
    · rcases hwh k e with e | e
      · exact .inl (h5 k e)
      · exact .inr (by omega)
/-- the view of a bus -/
theorem BB.view {B : Nat} {w : World} {F : Nat → Prop} {b vb : Nat} {v : Vw} {O : List (Int × Bs)} (h : BB B w F b vb v O) : w.cell? ⟨b, 0, none⟩ = some (.pointer (some ⟨vb, 0, none⟩)) ∧ VB w vb v ∧ F vb ∧ ∀ w' v', VB w' vb v' → Only vb w w' → BB B w' F b vb v' O ∧ Kp F F w w' := by
  obtain ⟨rv, h1, h2, h3, h4, h5⟩ := h.ex
  refine ⟨cell_of_row w b 0 _ _ _ h1, h2, h4, fun w' v' hv ho => ⟨⟨⟨rv, ?_, hv, ?_, h4, h5⟩, h.own, fun k hk => Nat.lt_of_lt_of_le (h.lt k hk) ho.size, h.low⟩, ⟨⟨ho.os, ho.tape, ho.output, ho.size, fun k hk => absurd hk (Nat.not_lt_zero _)⟩, fun k hk hf => ho.block k hk (fun e => hf (e ▸ h4)), fun _ hk => .inl hk⟩⟩⟩
  all_goals obtain ⟨VC, hv1, hv2⟩ := h2
  · refine (ho.block b (h.lt b h.own) (fun e => ?_)).trans h1
    rw [← e, h1] at hv1
    injection hv1 with hv1
    injection hv1 with _ hv1 _
    exact absurd hv1 (by decide)
  · refine h3.turn (fun g e => ho.block g (h.lt g (h5 g e)) (fun e' => ?_))
    rcases h3.2 with ⟨hv, -⟩ | ⟨gg, cp, cur', hv, _, hh, _⟩
    · rw [hv] at e; cases e
    · rw [hv] at e
      have e : gg = _ := Option.some.inj (show some gg = some _ from e)
      rw [e, e', hv1] at hh
      injection hh with hh
      injection hh with _ hh _
      exact absurd hh (by decide)
/-- a bus that is made of a view -/
theorem bb_new {B vb : Nat} {w : World} {v : Vw} (hV : VB w vb v) (hB : B ≤ vb) : BB B (w.alloc (.cells (bkC vb (.slice none 0 0)) 77)) (fun k => k = w.heap.size ∨ k = vb) w.heap.size vb v [] := by
  have hl := hV.lt
  refine ⟨⟨.slice none 0 0, heap_alloc_new w _, hV.below (below_alloc w _) hl, gor_nil _ _, .inr rfl, fun g e => by cases e⟩, .inl rfl, fun k hk => ?_, fun k hk => ?_⟩
  · rw [World.size_alloc]
    rcases hk with rfl | rfl <;> omega
  · rcases hk with rfl | rfl <;> omega
/-- what has gone out is handed on -/
theorem bb_outs {B : Nat} {w : World} {F : Nat → Prop} {b vb : Nat} {v : Vw} {O : List (Int × Bs)} (h : BB B w F b vb v O) : ∃ a c, w.cell? ⟨b, 1, none⟩ = some (.slice a O.length c) ∧ w.frozen? ⟨b, 1, none⟩ = false ∧ OutB (w.setCell ⟨b, 1, none⟩ (.slice none 0 0)) a O ∧ (∀ x, a = some x → F x.block) ∧
    ∃ F', BB B (w.setCell ⟨b, 1, none⟩ (.slice none 0 0)) F' b vb v [] ∧ Kp F F' w (w.setCell ⟨b, 1, none⟩ (.slice none 0 0)) ∧ (∀ x, a = some x → ¬ F' x.block) := by
  obtain ⟨rv, h1, h2, h3, h4, h5⟩ := h.ex
  obtain ⟨a, c, rfl, ho, hx⟩ := h3.out
  obtain ⟨VC, hv1, hv2⟩ := h2
  have hso : ∀ k, k ≠ b → (w.setCell ⟨b, 1, none⟩ (.slice none 0 0)).heap[k]? = w.heap[k]? := fun k hk => Below.heap_setCell _ _ _ _ hk
  have hss : (w.setCell ⟨b, 1, none⟩ (.slice none 0 0)).heap.size = w.heap.size := by simp [World.setCell]
  have hty : ∀ k C (t : TypeId) fr, w.heap[k]? = some (.cells C t fr) → t ≠ 69 → (Value.slice a O.length c).ownBlock ≠ some k := fun k C t fr hk hne e => by
    rcases h3.2 with ⟨hv, -⟩ | ⟨gg, cp, cur', hv, hg, hh, r⟩
    · rw [hv] at e; cases e
    · rw [hv] at e
      have e : gg = _ := Option.some.inj (show some gg = some _ from e)
      rw [e, hk] at hh
      injection hh with hh
      injection hh with _ hh _
      exact hne hh
  have hvb : vb ≠ b := fun e => by
    rw [e, h1] at hv1
    injection hv1 with hv1
    injection hv1 with _ hv1 _
    exact absurd hv1 (by decide)
  refine ⟨a, c, cell_of_row w b 1 _ _ _ h1, by simp [World.frozen?, h1], fun hne => ?_, fun x e => h5 _ (hx x e), fun k => k = b ∨ k = vb, ⟨⟨.slice none 0 0, heap_setCell_same w b 1 _ _ _ h1, ⟨VC, (hso vb hvb).trans hv1, hv2⟩, gor_nil _ _, .inr rfl, fun g e => by cases e⟩, .inl rfl, fun k hk => ?_, fun k hk => ?_⟩, ⟨⟨rfl, rfl, rfl, by rw [hss]; omega, fun k hk => absurd hk (Nat.not_lt_zero _)⟩, fun k _ hf => hso k (fun e => hf (e ▸ h.own)), fun k hk => ?_⟩, fun x e hk => ?_⟩
  · obtain ⟨bb, o, rfl, hb, hc⟩ := ho hne
    have hne2 : bb ≠ b := fun e => hty b _ _ _ h1 (by decide) (by rw [hx _ rfl, e])
    refine ⟨bb, o, rfl, by rw [hss]; exact hb, fun j hj => ?_⟩
    obtain ⟨c1, c2⟩ := hc j hj
    exact ⟨(World.cell?_setCell_other w _ _ _ (fun e => hne2 (by have := congrArg Addr.block e; first | exact this | exact this.symm))).trans c1, (World.cell?_setCell_other w _ _ _ (fun e => hne2 (by have := congrArg Addr.block e; first | exact this | exact this.symm))).trans c2⟩
  · rw [hss]
    rcases hk with rfl | rfl
    · exact h.lt _ h.own
    · exact h.lt _ h4
  · rcases hk with rfl | rfl
    · exact h.low _ h.own
    · exact h.low _ h4
  · rcases hk with rfl | rfl
    · exact .inl h.own
    · exact .inl h4
  · have e2 := hx x e
    rcases hk with hk | hk
    · rw [hk] at e2; exact hty b _ _ _ h1 (by decide) e2
    · rw [hk] at e2; exact hty vb _ _ _ hv1 (by decide) e2

end Go.Proofs.YtbfllifgmlkndaaGreatDoor

namespace Go.Proofs.YtbfllifgmlkndaaGreatDoor
open Go.RowKit
open Slot

theorem run_bout (OC : Array Value) (hs : OC.size = 2) (w : World) : (Instr.buildSlice 47 1 #[(0, .agg OC)]).run Tryz.prog w = .ok (.slice (some ⟨w.heap.size, 0, none⟩) 1 1) (w.alloc (.cells OC 69)) := by
  obtain ⟨i0, z, hi0, hz, hz1, hz2, hzs⟩ := info_out
  refine run_buildSlice w 47 69 1 _ OC i0 z Tryz.underlying47 hi0 hz (by rw [hz1]; decide) (by rw [hz1]; decide) ?_
  rw [hz1]
  generalize hB : (Array.range (1 * 2)).map (z.cells[· % z.cells.size]!) = B
  have hBs : B.size = 2 := by rw [← hB]; simp
  show Instr.fill (fun i => some (i * 2, 2)) B [(0, .agg OC)] = some OC
  simp only [Instr.fill, Value.cells, hs, hBs]
  rw [if_neg (by simp)]
  refine congrArg some ?_
  have := fill_row #[] B OC (by rw [hs, hBs])
  simpa using this
theorem wp_bout {o : Oper} {a : Act} {w : World} {K : Act → World → Prop} {Q : Exit → Act → World → Prop} (x : Operand) (ho : o.op = .buildSlice 47 1 #[(0, x)]) (OC : Array Value) (hx : a.eval x = .agg OC) (hs : OC.size = 2)
    (h : K (a.put o.dst (.slice (some ⟨w.heap.size, 0, none⟩) 1 1)) (w.alloc (.cells OC 69))) : o.wp Tryz.prog a w K Q := by
  unfold Oper.wp execOp
  simp only [ho, List.map_toArray, List.map_cons, List.map_nil, hx, Sem.run_bind, run_bout OC hs w, Result.andThen_ok]
  exact h
theorem Pks.kp {w w' : World} {F F' : Nat → Prop} {a : Option Addr} {L : List Pk} (h : Pks w a L) (hk : Kp F F' w w') (ha : ∀ x, a = some x → ¬ F x.block) : Pks w' a L := fun hne => by
  obtain ⟨b, o, rfl, h1, h2⟩ := h hne
  refine ⟨b, o, rfl, Nat.lt_of_lt_of_le h1 hk.like.size, fun j hj i v hv => ?_⟩
  rw [World.cell?_of_block (w := w) (hk.block b h1 (ha _ rfl))]
  exact h2 j hj i v hv
set_option maxHeartbeats 1000000 in
theorem road_any (b : Nat) (t : Int) (w : World) : Calls Tryz.prog 42 #[.pointer (some ⟨b, 0, none⟩), .int .i64 t] w fun e w' => e = .returned (.agg #[.pointer (some ⟨b, 0, none⟩), .int .i64 t]) ∧ Below w.heap.size w w' := by
  go_enter Tryz.func42, Tryz.ntmps42
  go_wp2
  exact bodyPost_ret (v := .agg #[.pointer (some ⟨b, 0, none⟩), .int .i64 t]) (by simp [results, Tryz.results42, go_sem]) rfl ⟨rfl, (Below.refl _ _).alloc (Nat.le_refl _) _⟩
set_option maxHeartbeats 4000000 in
set_option maxRecDepth 100000 in
theorem lay_any (B b vb : Nat) (F : Nat → Prop) (v : Vw) (O : List (Int × Bs)) (t : Int) (p : Pk) (w : World) (hB : BB B w F b vb v O) (hE : Env w) (hO : O.length ≤ 1000000) :
    Calls Tryz.prog 43 #[.agg #[.pointer (some ⟨b, 0, none⟩), .int .i64 t], .agg (pkCells p)] w fun e w' => (∃ x, e = .returned x) ∧ ∃ F', BB B w' F' b vb v (O ++ [(t, encS p)]) ∧ Kp F F' w w' := by
  have HR0 : Hid (((w.alloc (.cells #[.pointer (some ⟨b, 0, none⟩), .int .i64 t] 101)).alloc (.cells (pkCells p) 53)).heap[w.heap.size]? = some (.cells #[.pointer (some ⟨b, 0, none⟩), .int .i64 t] 101 (0, 0))) := heap_alloc2_old w _ _
  have HP0 : Hid (((w.alloc (.cells #[.pointer (some ⟨b, 0, none⟩), .int .i64 t] 101)).alloc (.cells (pkCells p) 53)).heap[w.heap.size + 1]? = some (.cells (pkCells p) 53 (0, 0))) := heap_alloc2_new w _ _
  have HW0 : Hid (Below w.heap.size w ((w.alloc (.cells #[.pointer (some ⟨b, 0, none⟩), .int .i64 t] 101)).alloc (.cells (pkCells p) 53))) := (below_alloc w _).alloc (by simp) _
  have HB0 := hid (hB.call HW0.out)
  have HE0 := hid (hE.below HW0.out hE.room)
  have HEn := hid (fun W h => encode_any p W h)
  have iP := infoPk p
  have HLt := hid hB.lt
  have HO := hid hO
  obtain ⟨PC, hPC⟩ : ∃ C, pkCells p = C := ⟨_, rfl⟩
  rw [hPC] at HR0 HP0 HW0 HB0 HE0 HEn iP ⊢
  obtain ⟨es, hes⟩ : ∃ s, encS p = s := ⟨_, rfl⟩
  rw [hes] at HEn ⊢
  obtain ⟨ee, hee⟩ : ∃ s, encE p = s := ⟨_, rfl⟩
  rw [hee] at HEn
  clear hPC hes hee hB hE hO
  go_enter Tryz.func43, Tryz.ntmps43
  go_upto_region 1 with fail
  generalize (w.alloc (.cells #[.pointer (some ⟨b, 0, none⟩), .int .i64 t] 101)).alloc (.cells PC 53) = w1 at *
  go_wp2_with (refine wpList_load_row rfl 53 _ rfl (w.heap.size + 1) rfl 53 _ (0, 0) _ HP0.out Tryz.underlying53 rfl iP ?_)
  refine (HEn.out _ HE0.out).mono ?_; rintro r w2 ⟨rfl, hb2⟩
  have HR2 := hid ((hb2.block _ (Array.getElem?_eq_some_iff.1 HR0.out).1).trans HR0.out)
  have HB2 := hid (HB0.out.call hb2)
  have HW2 := hid (HW0.out.trans (hb2.mono HW0.out.size))
  clear hb2 HP0 HB0 HE0 HEn HW0 HR0
  go_upto_region 2 with fail
  refine wp_region_noPanic ?_
  have HB3 := hid HB2.out.drew
  have hlw := (Array.getElem?_eq_some_iff.1 HR2.out).1
  have r20 : w2.drew.cell? ⟨w.heap.size, 0, none⟩ = some (.pointer (some ⟨b, 0, none⟩)) := cell_of_row w2 w.heap.size 0 _ _ _ HR2.out
  have r21 : w2.drew.cell? ⟨w.heap.size, 1, none⟩ = some (.int .i64 t) := cell_of_row w2 w.heap.size 1 _ _ _ HR2.out
  obtain ⟨a1, n1, c1, v', W', q1, hr, q2, q3, q4, ⟨a', n', c', rfl⟩, F', hB', hK'⟩ := bb_push HB3.out HO.out t es
  have HF0 : Hid (¬ F w.heap.size) := fun h => by have := HLt.out _ h; omega
  have e4 := q4 w.heap.size hlw HF0.out
  have r30 : (w2.drew.alloc (.cells #[.int .i64 t, .string ⟨es.toArray⟩] 69)).cell? ⟨w.heap.size, 0, none⟩ = some (.pointer (some ⟨b, 0, none⟩)) := (World.cell?_alloc_some _ _ _ (by rw [r20]; rfl)).trans r20
  have r31 : (w2.drew.alloc (.cells #[.int .i64 t, .string ⟨es.toArray⟩] 69)).cell? ⟨w.heap.size, 1, none⟩ = some (.int .i64 t) := (World.cell?_alloc_some _ _ _ (by rw [r21]; rfl)).trans r21
  have r40 : W'.cell? ⟨w.heap.size, 0, none⟩ = some (.pointer (some ⟨b, 0, none⟩)) := (World.cell?_of_block e4).trans r20
  have r41 : W'.cell? ⟨w.heap.size, 1, none⟩ = some (.int .i64 t) := (World.cell?_of_block e4).trans r21
  have hbw : b ≠ w.heap.size := fun e => HF0.out (e ▸ HB2.out.own)
  have r50 : (W'.setCell ⟨b, 1, none⟩ (.slice a' n' c')).cell? ⟨w.heap.size, 0, none⟩ = some (.pointer (some ⟨b, 0, none⟩)) := (World.cell?_setCell_far _ _ _ _ hbw).trans r40
  have r51 : (W'.setCell ⟨b, 1, none⟩ (.slice a' n' c')).cell? ⟨w.heap.size, 1, none⟩ = some (.int .i64 t) := (World.cell?_setCell_far _ _ _ _ hbw).trans r41
  have HS3 := hid (And.intro r30 r31)
  have HS4 := hid (And.intro r40 r41)
  have HS5 := hid (And.intro r50 r51)
  have HQ := hid (And.intro q2 q3)
  have HRn := hid hr
  have HBf := hid hB'
  have HKf : Hid (Kp F F' w (W'.setCell ⟨b, 1, none⟩ (.slice a' n' c'))) := (Kp.of_below HW2.out.drew (Nat.le_refl _)).trans hK'
  have q1h := hid q1
  clear r30 r31 r40 r41 r50 r51 q2 q3 q4 e4 hr hB' hK' hbw q1 HB3
  refine wp_region_held_drew (S := fun W => W.cell? ⟨w.heap.size, 0, none⟩ = some (.pointer (some ⟨b, 0, none⟩)) ∧ W.cell? ⟨w.heap.size, 1, none⟩ = some (.int .i64 t)) (by kernel_rfl) ⟨r20, r21⟩ (fun hHeld => ?_)
  clear r20 r21
  refine wpAnyH_take (i := 0) (oi := { dst := some 11, op := Op.fieldAddr 101 (Operand.tmp 2) 0, type := 0, pos := "bus.go:79", after := #[], guard := none }) (v := .pointer (some ⟨w.heap.size, 0, none⟩)) rfl (by kernel_rfl) (by kernel_rfl) (by kernel_rfl) (fun _ _ _ h => h) (Or.inl ⟨by rfl, fun wS hSw => ?_⟩) (by assumption) ?_
  · clear hHeld
    clear hSw
    go_simp
  try simp only [Act.put, List.setIfInBounds_toArray, List.set_cons_zero, List.set_cons_succ]
  refine wpAnyH_take (i := 1) (oi := { dst := some 12, op := Op.load 28 (Operand.tmp 11), type := 28, pos := "bus.go:79", after := #[{ on := 0, ground := Ground.data }], guard := none }) (v := .pointer (some ⟨b, 0, none⟩)) rfl (by kernel_rfl) (by kernel_rfl) (by kernel_rfl) (fun _ _ _ h => h) (Or.inl ⟨by rfl, fun wS hSw => ?_⟩) (by assumption) ?_
  · clear hHeld
    obtain ⟨s0, s1⟩ := hSw
    go_simp
  try simp only [Act.put, List.setIfInBounds_toArray, List.set_cons_zero, List.set_cons_succ]
  refine wpAnyH_take (i := 2) (oi := { dst := some 13, op := Op.fieldAddr 101 (Operand.tmp 2) 0, type := 0, pos := "bus.go:79", after := #[], guard := none }) (v := .pointer (some ⟨w.heap.size, 0, none⟩)) rfl (by kernel_rfl) (by kernel_rfl) (by kernel_rfl) (fun _ _ _ h => h) (Or.inl ⟨by rfl, fun wS hSw => ?_⟩) (by assumption) ?_
  · clear hHeld
    clear hSw
    go_simp
  try simp only [Act.put, List.setIfInBounds_toArray, List.set_cons_zero, List.set_cons_succ]
  refine wpAnyH_take (i := 3) (oi := { dst := some 14, op := Op.load 28 (Operand.tmp 13), type := 28, pos := "bus.go:79", after := #[{ on := 2, ground := Ground.data }], guard := none }) (v := .pointer (some ⟨b, 0, none⟩)) rfl (by kernel_rfl) (by kernel_rfl) (by kernel_rfl) (fun _ _ _ h => h) (Or.inl ⟨by rfl, fun wS hSw => ?_⟩) (by assumption) ?_
  · clear hHeld
    obtain ⟨s0, s1⟩ := hSw
    go_simp
  try simp only [Act.put, List.setIfInBounds_toArray, List.set_cons_zero, List.set_cons_succ]
  refine wpAnyH_take (i := 4) (oi := { dst := some 15, op := Op.nilCheck (Operand.tmp 14), type := 0, pos := "bus.go:79", after := #[{ on := 3, ground := Ground.data }], guard := none }) (v := .pointer (some ⟨b, 0, none⟩)) rfl (by kernel_rfl) (by kernel_rfl) (by kernel_rfl) (fun _ _ _ h => h) (Or.inl ⟨by rfl, fun wS hSw => ?_⟩) (by assumption) ?_
  · clear hHeld
    clear hSw
    go_simp
  try simp only [Act.put, List.setIfInBounds_toArray, List.set_cons_zero, List.set_cons_succ]
  refine wpAnyH_take (i := 5) (oi := { dst := some 16, op := Op.fieldAddr 77 (Operand.tmp 15) 1, type := 0, pos := "bus.go:79", after := #[{ on := 4, ground := Ground.data }], guard := none }) (v := .pointer (some ⟨b, 1, none⟩)) rfl (by kernel_rfl) (by kernel_rfl) (by kernel_rfl) (fun _ _ _ h => h) (Or.inl ⟨by rfl, fun wS hSw => ?_⟩) (by assumption) ?_
  · clear hHeld
    clear hSw
    go_simp
  try simp only [Act.put, List.setIfInBounds_toArray, List.set_cons_zero, List.set_cons_succ]
  refine wpAnyH_take (i := 7) (oi := { dst := some 18, op := Op.fieldAddr 101 (Operand.tmp 2) 1, type := 0, pos := "bus.go:79", after := #[], guard := none }) (v := .pointer (some ⟨w.heap.size, 1, none⟩)) rfl (by kernel_rfl) (by kernel_rfl) (by kernel_rfl) (fun _ _ _ h => h) (Or.inl ⟨by rfl, fun wS hSw => ?_⟩) (by assumption) ?_
  · clear hHeld
    clear hSw
    go_simp
  try simp only [Act.put, List.setIfInBounds_toArray, List.set_cons_zero, List.set_cons_succ]
  refine wpAnyH_take (i := 8) (oi := { dst := some 19, op := Op.load 3 (Operand.tmp 18), type := 3, pos := "bus.go:79", after := #[{ on := 7, ground := Ground.data }], guard := none }) (v := .int .i64 t) rfl (by kernel_rfl) (by kernel_rfl) (by kernel_rfl) (fun _ _ _ h => h) (Or.inl ⟨by rfl, fun wS hSw => ?_⟩) (by assumption) ?_
  · clear hHeld
    obtain ⟨s0, s1⟩ := hSw
    go_simp
  try simp only [Act.put, List.setIfInBounds_toArray, List.set_cons_zero, List.set_cons_succ]
  refine wpAnyH_take (i := 9) (oi := { dst := some 20, op := Op.move (Operand.tmp 4), type := 9, pos := "bus.go:79", after := #[], guard := none }) (v := .string ⟨es.toArray⟩) rfl (by kernel_rfl) (by kernel_rfl) (by kernel_rfl) (fun _ _ _ h => h) (Or.inl ⟨by rfl, fun wS hSw => ?_⟩) (by assumption) ?_
  · clear hHeld
    clear hSw
    go_simp
  try simp only [Act.put, List.setIfInBounds_toArray, List.set_cons_zero, List.set_cons_succ]
  refine wpAnyH_take (i := 10) (oi := { dst := some 21, op := Op.build 69 #[(0, Operand.tmp 19), (1, Operand.tmp 20)], type := 69, pos := "bus.go:79", after := #[{ on := 8, ground := Ground.data }, { on := 9, ground := Ground.data }], guard := none }) (v := .agg #[.int .i64 t, .string ⟨es.toArray⟩]) rfl (by kernel_rfl) (by kernel_rfl) (by kernel_rfl) (fun _ _ _ h => h) (Or.inl ⟨by rfl, fun wS hSw => ?_⟩) (by assumption) ?_
  · clear hHeld
    clear hSw
    go_simp
  try simp only [Act.put, List.setIfInBounds_toArray, List.set_cons_zero, List.set_cons_succ]
  refine wpAnyH_ready (rs := [6, 11]) (by kernel_rfl) (by simp) ?_
  refine AllReadyH.cons (o := { dst := some 17, op := Op.load 47 (Operand.tmp 16), type := 47, pos := "bus.go:79", after := #[{ on := 5, ground := Ground.data }], guard := none }) rfl (fun K hK => ?_) (AllReadyH.cons (o := { dst := some 22, op := Op.buildSlice 47 1 #[(0, Operand.tmp 21)], type := 47, pos := "bus.go:79", after := #[{ on := 10, ground := Ground.data }], guard := none }) rfl (fun K hK => ?_) AllReadyH.nil)
  · have q1 := q1h.out
    have hs := hid hHeld
    clear hHeld
    go_simp
    refine hK.out _ _ hs.out (fun hHeld => ?_)
    clear hK K q1 hs
    try simp only [Act.put, List.setIfInBounds_toArray, List.set_cons_zero, List.set_cons_succ]
    refine wpAnyH_ready (rs := [11]) (by kernel_rfl) (by simp) ?_
    refine AllReadyH.cons (o := { dst := some 22, op := Op.buildSlice 47 1 #[(0, Operand.tmp 21)], type := 47, pos := "bus.go:79", after := #[{ on := 10, ground := Ground.data }], guard := none }) rfl (fun K hK => ?_) AllReadyH.nil
    rw [if_pos (by rfl)]
    refine wp_bout _ rfl #[.int .i64 t, .string ⟨es.toArray⟩] rfl rfl ?_
    refine hK.out _ _ HS3.out (fun hHeld => ?_)
    clear hK K
    try simp only [Act.put, List.setIfInBounds_toArray, List.set_cons_zero, List.set_cons_succ]
    refine wpAnyH_ready (rs := [12]) (by kernel_rfl) (by simp) ?_
    refine AllReadyH.cons (o := { dst := some 23, op := Op.call { callee := Callee.builtin Builtin.append, args := #[Operand.tmp 17, Operand.tmp 22], argTypes := #[47, 47] }, type := 47, pos := "bus.go:79", after := #[{ on := 6, ground := Ground.data }, { on := 11, ground := Ground.data }], guard := none }) rfl (fun K hK => ?_) AllReadyH.nil
    rw [if_pos (by rfl)]
    refine wp_app _ _ 47 rfl _ _ rfl rfl HRn.out ?_
    refine hK.out _ _ HS4.out (fun hHeld => ?_)
    clear hK K
    try simp only [Act.put, List.setIfInBounds_toArray, List.set_cons_zero, List.set_cons_succ]
    refine wpAnyH_take (i := 13) (oi := { dst := some 24, op := Op.nilCheck (Operand.tmp 12), type := 0, pos := "bus.go:79", after := #[{ on := 1, ground := Ground.data }, { on := 0, ground := Ground.phase }, { on := 1, ground := Ground.phase }, { on := 2, ground := Ground.phase }, { on := 3, ground := Ground.phase }, { on := 4, ground := Ground.phase }, { on := 5, ground := Ground.phase }, { on := 6, ground := Ground.phase }, { on := 7, ground := Ground.phase }, { on := 8, ground := Ground.phase }, { on := 9, ground := Ground.phase }, { on := 10, ground := Ground.phase }, { on := 11, ground := Ground.phase }, { on := 12, ground := Ground.phase }], guard := none }) (v := .pointer (some ⟨b, 0, none⟩)) rfl (by kernel_rfl) (by kernel_rfl) (by kernel_rfl) (fun _ _ _ h => h) (Or.inl ⟨by rfl, fun wS hSw => ?_⟩) (by assumption) ?_
    · clear hHeld
      clear hSw
      go_simp
    try simp only [Act.put, List.setIfInBounds_toArray, List.set_cons_zero, List.set_cons_succ]
    refine wpAnyH_take (i := 14) (oi := { dst := some 25, op := Op.fieldAddr 77 (Operand.tmp 24) 1, type := 0, pos := "bus.go:79", after := #[{ on := 13, ground := Ground.data }, { on := 0, ground := Ground.phase }, { on := 1, ground := Ground.phase }, { on := 2, ground := Ground.phase }, { on := 3, ground := Ground.phase }, { on := 4, ground := Ground.phase }, { on := 5, ground := Ground.phase }, { on := 6, ground := Ground.phase }, { on := 7, ground := Ground.phase }, { on := 8, ground := Ground.phase }, { on := 9, ground := Ground.phase }, { on := 10, ground := Ground.phase }, { on := 11, ground := Ground.phase }, { on := 12, ground := Ground.phase }], guard := none }) (v := .pointer (some ⟨b, 1, none⟩)) rfl (by kernel_rfl) (by kernel_rfl) (by kernel_rfl) (fun _ _ _ h => h) (Or.inl ⟨by rfl, fun wS hSw => ?_⟩) (by assumption) ?_
    · clear hHeld
      clear hSw
      go_simp
    try simp only [Act.put, List.setIfInBounds_toArray, List.set_cons_zero, List.set_cons_succ]
    refine wpAnyH_ready (rs := [15]) (by kernel_rfl) (by simp) ?_
    refine AllReadyH.cons (o := { dst := none, op := Op.store 47 (Operand.tmp 25) (Operand.tmp 23), type := 0, pos := "bus.go:79", after := #[{ on := 14, ground := Ground.data }, { on := 12, ground := Ground.data }, { on := 12, ground := Ground.chain }, { on := 0, ground := Ground.phase }, { on := 1, ground := Ground.phase }, { on := 2, ground := Ground.phase }, { on := 3, ground := Ground.phase }, { on := 4, ground := Ground.phase }, { on := 5, ground := Ground.phase }, { on := 6, ground := Ground.phase }, { on := 7, ground := Ground.phase }, { on := 8, ground := Ground.phase }, { on := 9, ground := Ground.phase }, { on := 10, ground := Ground.phase }, { on := 11, ground := Ground.phase }, { on := 12, ground := Ground.phase }], guard := none }) rfl (fun K hK => ?_) AllReadyH.nil
    clear hHeld
    obtain ⟨q2, q3⟩ := HQ.out
    go_simp
    refine hK.out _ _ HS5.out (fun hHeld => ?_)
    clear hK K q2 q3
    refine wpAnyH_done (by kernel_rfl) ?_ _
    refine NoPanic.normal ?_
    clear hHeld
    go_wp2_with fail
    go_end0
    exact ⟨⟨_, rfl⟩, F', HBf.out, HKf.out⟩
  · rw [if_pos (by rfl)]
    refine wp_bout _ rfl #[.int .i64 t, .string ⟨es.toArray⟩] rfl rfl ?_
    refine hK.out _ _ HS3.out (fun hHeld => ?_)
    clear hK K
    try simp only [Act.put, List.setIfInBounds_toArray, List.set_cons_zero, List.set_cons_succ]
    refine wpAnyH_ready (rs := [6]) (by kernel_rfl) (by simp) ?_
    refine AllReadyH.cons (o := { dst := some 17, op := Op.load 47 (Operand.tmp 16), type := 47, pos := "bus.go:79", after := #[{ on := 5, ground := Ground.data }], guard := none }) rfl (fun K hK => ?_) AllReadyH.nil
    have q1 : (w2.drew.alloc (.cells #[.int .i64 t, .string ⟨es.toArray⟩] 69)).cell? ⟨b, 1, none⟩ = _ := (World.cell?_alloc_some w2.drew ⟨b, 1, none⟩ (.cells #[.int .i64 t, .string ⟨es.toArray⟩] 69) (by rw [q1h.out]; rfl)).trans q1h.out
    generalize w2.drew.alloc (.cells #[.int .i64 t, .string ⟨es.toArray⟩] 69) = w3 at *
    have hs := hid hHeld
    clear hHeld
    go_simp
    refine hK.out _ _ hs.out (fun hHeld => ?_)
    clear hK K q1 hs
    try simp only [Act.put, List.setIfInBounds_toArray, List.set_cons_zero, List.set_cons_succ]
    refine wpAnyH_ready (rs := [12]) (by kernel_rfl) (by simp) ?_
    refine AllReadyH.cons (o := { dst := some 23, op := Op.call { callee := Callee.builtin Builtin.append, args := #[Operand.tmp 17, Operand.tmp 22], argTypes := #[47, 47] }, type := 47, pos := "bus.go:79", after := #[{ on := 6, ground := Ground.data }, { on := 11, ground := Ground.data }], guard := none }) rfl (fun K hK => ?_) AllReadyH.nil
    rw [if_pos (by rfl)]
    refine wp_app _ _ 47 rfl _ _ rfl rfl HRn.out ?_
    refine hK.out _ _ HS4.out (fun hHeld => ?_)
    clear hK K
    try simp only [Act.put, List.setIfInBounds_toArray, List.set_cons_zero, List.set_cons_succ]
    refine wpAnyH_take (i := 13) (oi := { dst := some 24, op := Op.nilCheck (Operand.tmp 12), type := 0, pos := "bus.go:79", after := #[{ on := 1, ground := Ground.data }, { on := 0, ground := Ground.phase }, { on := 1, ground := Ground.phase }, { on := 2, ground := Ground.phase }, { on := 3, ground := Ground.phase }, { on := 4, ground := Ground.phase }, { on := 5, ground := Ground.phase }, { on := 6, ground := Ground.phase }, { on := 7, ground := Ground.phase }, { on := 8, ground := Ground.phase }, { on := 9, ground := Ground.phase }, { on := 10, ground := Ground.phase }, { on := 11, ground := Ground.phase }, { on := 12, ground := Ground.phase }], guard := none }) (v := .pointer (some ⟨b, 0, none⟩)) rfl (by kernel_rfl) (by kernel_rfl) (by kernel_rfl) (fun _ _ _ h => h) (Or.inl ⟨by rfl, fun wS hSw => ?_⟩) (by assumption) ?_
    · clear hHeld
      clear hSw
      go_simp
    try simp only [Act.put, List.setIfInBounds_toArray, List.set_cons_zero, List.set_cons_succ]
    refine wpAnyH_take (i := 14) (oi := { dst := some 25, op := Op.fieldAddr 77 (Operand.tmp 24) 1, type := 0, pos := "bus.go:79", after := #[{ on := 13, ground := Ground.data }, { on := 0, ground := Ground.phase }, { on := 1, ground := Ground.phase }, { on := 2, ground := Ground.phase }, { on := 3, ground := Ground.phase }, { on := 4, ground := Ground.phase }, { on := 5, ground := Ground.phase }, { on := 6, ground := Ground.phase }, { on := 7, ground := Ground.phase }, { on := 8, ground := Ground.phase }, { on := 9, ground := Ground.phase }, { on := 10, ground := Ground.phase }, { on := 11, ground := Ground.phase }, { on := 12, ground := Ground.phase }], guard := none }) (v := .pointer (some ⟨b, 1, none⟩)) rfl (by kernel_rfl) (by kernel_rfl) (by kernel_rfl) (fun _ _ _ h => h) (Or.inl ⟨by rfl, fun wS hSw => ?_⟩) (by assumption) ?_
    · clear hHeld
      clear hSw
      go_simp
    try simp only [Act.put, List.setIfInBounds_toArray, List.set_cons_zero, List.set_cons_succ]
    refine wpAnyH_ready (rs := [15]) (by kernel_rfl) (by simp) ?_
    refine AllReadyH.cons (o := { dst := none, op := Op.store 47 (Operand.tmp 25) (Operand.tmp 23), type := 0, pos := "bus.go:79", after := #[{ on := 14, ground := Ground.data }, { on := 12, ground := Ground.data }, { on := 12, ground := Ground.chain }, { on := 0, ground := Ground.phase }, { on := 1, ground := Ground.phase }, { on := 2, ground := Ground.phase }, { on := 3, ground := Ground.phase }, { on := 4, ground := Ground.phase }, { on := 5, ground := Ground.phase }, { on := 6, ground := Ground.phase }, { on := 7, ground := Ground.phase }, { on := 8, ground := Ground.phase }, { on := 9, ground := Ground.phase }, { on := 10, ground := Ground.phase }, { on := 11, ground := Ground.phase }, { on := 12, ground := Ground.phase }], guard := none }) rfl (fun K hK => ?_) AllReadyH.nil
    clear hHeld
    obtain ⟨q2, q3⟩ := HQ.out
    go_simp
    refine hK.out _ _ HS5.out (fun hHeld => ?_)
    clear hK K q2 q3
    refine wpAnyH_done (by kernel_rfl) ?_ _
    refine NoPanic.normal ?_
    clear hHeld
    go_wp2_with fail
    go_end0
    exact ⟨⟨_, rfl⟩, F', HBf.out, HKf.out⟩

end Go.Proofs.YtbfllifgmlkndaaGreatDoor

namespace Go.Proofs.YtbfllifgmlkndaaGreatDoor
open Go.RowKit
open Slot

/-- the error of New -/
def newE (self : Int) (e : Nat) : Int := if 0 ≤ self ∧ self < 64 then (if e ≤ 4611686018427387904 then 0 else 1) else 150
theorem ret_z {fn : Func} {p q : Tmp} (h : fn.results = #[.cell p 34, .tmp q]) {tmps : Array Value} {w : World} {b : Nat} {v : Value} (hp : tmps.getD p undef = .pointer (some ⟨b, 0, none⟩)) (hq : tmps.getD q undef = v) (hB : w.heap[b]? = some (.cells zrv 34 (0, 0))) :
    (results fn tmps).run Tryz.prog w = .ok (.tuple #[.agg zrv, v]) w := by
  have hp' : tmps[p]?.getD undef = .pointer (some ⟨b, 0, none⟩) := by simpa using hp
  have hq' : tmps[q]?.getD undef = v := by simpa using hq
  simp [results, h, hp', hq', asAddr, run_loadVar_row w b 34 34 zrv (0, 0) _ hB Tryz.underlying34 rfl (infoRV rfl)]
theorem z_one : (#[.int .i64 0, .slice none 0 0, .int .u64 0] : Array Value).all (·.oneCell') = true := by simp [Value.oneCell']
def NewP (c : Int) (w : World) (r : Ending) (w' : World) : Prop := r = .returned (.tuple #[.agg zrv, .int .i64 c]) ∧ Below w.heap.size w w'
set_option maxHeartbeats 4000000 in
set_option maxRecDepth 100000 in
theorem rnew_no (self : Int) (e : Nat) (S : Nat → Bool) (c : Int) (w : World) (h : newE self e = c) (hc : c ≠ 0) : Calls Tryz.prog 8 #[.int .i64 self, .agg (cellsOf S), .int .u64 (e : Int)] w (NewP c w) := by
  have HW0 : Hid (Below w.heap.size w ((w.alloc (.cells (cellsOf S) 24)).alloc (.cells #[.int .i64 0, .slice none 0 0, .int .u64 0] 34))) := (below_alloc w _).alloc (by simp) _
  have HR0 : Hid (((w.alloc (.cells (cellsOf S) 24)).alloc (.cells #[.int .i64 0, .slice none 0 0, .int .u64 0] 34)).heap[w.heap.size + 1]? = some (.cells #[.int .i64 0, .slice none 0 0, .int .u64 0] 34 (0, 0))) := heap_alloc2_new w _ _
  have HH : Hid (newE self e = c ∧ c ≠ 0) := ⟨h, hc⟩
  clear h hc
  generalize cellsOf S = CX at *
  by_cases h0 : self < 0
  · obtain rfl : c = 150 := by rw [← HH.out.1]; unfold newE; rw [if_neg (by omega)]
    go_enter Tryz.func8, Tryz.ntmps8
    go_upto_region 1 with fail
    generalize (w.alloc (.cells CX 24)).alloc (.cells #[.int .i64 0, .slice none 0 0, .int .u64 0] 34) = w2 at *
    go_wp2_with (refine wpList_store_row rfl 34 _ _ rfl (w.heap.size + 1) #[.int .i64 0, .slice none 0 0, .int .u64 0] rfl rfl 34 _ HR0.out (infoRV rfl) rfl z_one ?_)
    refine bodyPost_ret (v := .tuple #[.agg zrv, .int .i64 150]) ?_ rfl ?_
    · exact ret_z rfl rfl rfl (setRow_heap _ _ _ _ _ _ HR0.out)
    · exact ⟨rfl, below_setRow HW0.out (by omega) _⟩
  · by_cases h1 : 63 < self
    · obtain rfl : c = 150 := by rw [← HH.out.1]; unfold newE; rw [if_neg (by omega)]
      go_enter Tryz.func8, Tryz.ntmps8
      go_upto_region 1 with fail
      generalize (w.alloc (.cells CX 24)).alloc (.cells #[.int .i64 0, .slice none 0 0, .int .u64 0] 34) = w2 at *
      go_wp2_with (refine wpList_store_row rfl 34 _ _ rfl (w.heap.size + 1) #[.int .i64 0, .slice none 0 0, .int .u64 0] rfl rfl 34 _ HR0.out (infoRV rfl) rfl z_one ?_)
      refine bodyPost_ret (v := .tuple #[.agg zrv, .int .i64 150]) ?_ rfl ?_
      · exact ret_z rfl rfl rfl (setRow_heap _ _ _ _ _ _ HR0.out)
      · exact ⟨rfl, below_setRow HW0.out (by omega) _⟩
    · have h2 : (4611686018427387904 : Int) < (e : Int) := by
        have := HH.out
        unfold newE at this
        rw [if_pos (by omega)] at this
        by_cases c : e ≤ 4611686018427387904
        · rw [if_pos c] at this; exact absurd this.1.symm this.2
        · omega
      obtain rfl : c = 1 := by rw [← HH.out.1]; unfold newE; rw [if_pos (by omega), if_neg (by omega)]
      go_enter Tryz.func8, Tryz.ntmps8
      go_upto_region 1 with fail
      generalize (w.alloc (.cells CX 24)).alloc (.cells #[.int .i64 0, .slice none 0 0, .int .u64 0] 34) = w2 at *
      go_wp2_with (refine wpList_store_row rfl 34 _ _ rfl (w.heap.size + 1) #[.int .i64 0, .slice none 0 0, .int .u64 0] rfl rfl 34 _ HR0.out (infoRV rfl) rfl z_one ?_)
      refine bodyPost_ret (v := .tuple #[.agg zrv, .int .i64 1]) ?_ rfl ?_
      · exact ret_z rfl rfl rfl (setRow_heap _ _ _ _ _ _ HR0.out)
      · exact ⟨rfl, below_setRow HW0.out (by omega) _⟩

end Go.Proofs.YtbfllifgmlkndaaGreatDoor

namespace Go.Proofs.YtbfllifgmlkndaaGreatDoor
open Go.RowKit
open Slot

theorem wpList_built2 {P : Program} {ops : Array Oper} {rest : List Oper} {o : Oper} {a : Act} {w : World} {Q : Exit → Act → World → Prop} (hg : o.guard = none) (t : TypeId) (i j : Nat) (x y : Operand) (ho : o.op = .build t #[(i, x), (j, y)])
    (u v : Value) (hx : a.eval x = u) (hy : a.eval y = v) (C : Array Value) (hb : P.built t [(i, u), (j, v)] = some C) (h : wpList P ops Q rest (a.put o.dst (.agg C)) w) : wpList P ops Q (o :: rest) a w := by
  have e : (#[(i, x), (j, y)].map fun (i, x) => (i, a.eval x)).toList = [(i, u), (j, v)] := by simp [hx, hy]
  exact wpList_build hg t _ ho (by rw [e, hb]; rfl) (by rw [e, hb]; exact h)
theorem built_view {Z : Array Value} (hZ : Tryz.t109.zero = some (.agg Z)) (hs : Z.size = 16450) (s e : Int) : Tryz.prog.built 109 [(0, .int .i64 s), (3, .int .u64 e)] = some ((Z.setIfInBounds 0 (.int .i64 s)).setIfInBounds 16449 (.int .u64 e)) := by
  have hi : Tryz.prog.info? 109 = some Tryz.t109 := by kernel_rfl
  obtain ⟨fs, hu, hp⟩ : ∃ fs, Tryz.prog.underlying 109 = some (.struct fs) ∧ fs.toList.mapM (fun f => (Tryz.prog.info? f.type).map fun i => (f.offset, i.size)) = some [(0, 1), (1, 16384), (16385, 64), (16449, 1)] := ⟨_, Tryz.underlying109, by kernel_rfl⟩
  unfold Program.built
  rw [hi, hu]
  simp only [hZ, hp]
  show Instr.fill _ Z _ = _
  simp [Instr.fill, Value.cells, hs]
/-- a view under way: the first k slots are nobody's -/
def VN (w : World) (b self e k : Nat) : Prop := ∃ C : Array Value, w.heap[b]? = some (.cells C 109 (0, 0)) ∧ C.size = 16450 ∧ C[0]? = some (.int .i64 (self : Int)) ∧ (∀ s, s < k → C[1 + s]? = some (.int .i8 (-1))) ∧ (∀ n, n < 64 → C[16385 + n]? = some (.int .u64 0)) ∧ C[16449]? = some (.int .u64 (e : Int))
theorem VN.lt {w : World} {b self e k : Nat} (h : VN w b self e k) : b < w.heap.size := by
  obtain ⟨C, h1, _⟩ := h
  exact (Array.getElem?_eq_some_iff.1 h1).1
theorem VN.cell {w : World} {b self e k : Nat} (h : VN w b self e k) {s : Nat} (hs : s < 16384) : ∃ x, w.cell? ⟨b, 1 + s, none⟩ = some x := by
  obtain ⟨C, h1, h2, _⟩ := h
  refine ⟨C[1 + s]'(by omega), ?_⟩
  rw [cell_of_row w b _ _ _ _ h1, Array.getElem?_eq_getElem (by omega)]
theorem VN.frozen {w : World} {b self e k : Nat} (h : VN w b self e k) (j : Nat) : w.frozen? ⟨b, j, none⟩ = false := by
  obtain ⟨C, h1, _⟩ := h
  simp [World.frozen?, h1]
theorem VN.step {w : World} {b self e k : Nat} (h : VN w b self e k) (hk : k < 16384) : VN (w.setCell ⟨b, 1 + k, none⟩ (.int .i8 (-1))) b self e (k + 1) := by
  obtain ⟨C, h1, h2, h3, h4, h5, h6⟩ := h
  refine ⟨_, heap_setCell_same w b (1 + k) C _ _ h1, by rw [Array.size_setIfInBounds]; exact h2, set_ne (by omega) h3, fun t ht => ?_, fun m hm => set_ne (by omega) (h5 m hm), set_ne (by omega) h6⟩
  by_cases e : t = k
  · rw [e]; exact set_eq (by omega)
  · exact set_ne (by omega) (h4 t (by omega))
/-- a view of which nothing is known -/
def bareV (self e : Nat) : Vw := ⟨self, fun _ => 0, fun _ => 64, e⟩
theorem VN.done {w : World} {b self e : Nat} (h : VN w b self e 16384) : VB w b (bareV self e) := by
  obtain ⟨C, h1, h2, h3, h4, h5, h6⟩ := h
  exact ⟨C, h1, h2, h3, fun s hs => h4 s hs, fun n hn => h5 n hn, h6⟩
theorem new_end {w : World} {b self e : Nat} {S : Nat → Bool} (h : VB w b (bl3 (bareV self e) self e (slots S))) : VB w b (newV self S e) := by
  have := bl3_end (p := ⟨1, 0, 0, e, e, S⟩) h
  refine this.congr rfl (fun s _ => ?_) (fun n _ => rfl) rfl
  show (if S s then self else 64) = (if S s then (if (64 = 64 ∨ 64 = self ∨ 0 < e) then self else 64) else (if 64 = self then 64 else 64))
  cases S s
  · simp
  · simp
theorem vn_new {Z : Array Value} {w : World} {self e : Nat} (hs : Z.size = 16450) (hz : ∀ n, n < 65 → Z[16385 + n]? = some (.int .u64 0)) :
    VN (w.alloc (.cells ((Z.setIfInBounds 0 (.int .i64 (self : Int))).setIfInBounds 16449 (.int .u64 (e : Int))) 109)) w.heap.size self e 0 := by
  refine ⟨_, heap_alloc_new w _, by simp [hs], ?_, fun s h => absurd h (Nat.not_lt_zero s), fun n hn => ?_, ?_⟩
  · rw [Array.getElem?_setIfInBounds_ne (by decide)]
    exact Array.getElem?_setIfInBounds_self_of_lt (by rw [hs]; decide)
  · rw [Array.getElem?_setIfInBounds_ne (by omega), Array.getElem?_setIfInBounds_ne (by omega)]
    exact hz n (by omega)
  · exact Array.getElem?_setIfInBounds_self_of_lt (by rw [Array.size_setIfInBounds, hs]; decide)
def PNewP (self e : Nat) (S : Nat → Bool) (w : World) (r : Ending) (w' : World) : Prop := ∃ b, r = .returned (.tuple #[.pointer (some ⟨b, 0, none⟩), .int .i64 0]) ∧ VB w' b (newV self S e) ∧ w.heap.size ≤ b ∧ Below w.heap.size w w'
set_option maxHeartbeats 4000000 in
set_option maxRecDepth 100000 in
theorem pnew_yes (self e : Nat) (S : Nat → Bool) (w : World) (hs : self < 64) (he : e ≤ 4611686018427387904) : Calls Tryz.prog 24 #[.int .i64 (self : Int), .agg (cellsOf S), .int .u64 (e : Int)] w (PNewP self e S w) := by
  obtain ⟨Z0, hZ, hl, c, hc⟩ := zview
  obtain ⟨Z, z1, z2, z3, z4⟩ := zview_any
  have hz0 : (zeroValue 109).run Tryz.prog w = .ok (.agg Z0.toArray) w := by
    unfold zeroValue
    rw [Sem.run_bind, Tryz.typeInfo109]
    simp only [Result.andThen_ok, hZ]
    rfl
  have hZe : Z0.toArray = Z := by
    have := hz0.symm.trans (z4 w)
    simpa using this
  rw [hZe] at hZ
  have hbv := built_view hZ z1 (self : Int) (e : Int)
  have HVn := hid (fun W : World => vn_new (w := W) (self := self) (e := e) z1 z2)
  have HNd := hid (isnode_any (self : Int))
  have hnd : nodeB (self : Int) = true := decide_eq_true (by omega)
  rw [hnd] at HNd
  have hez : ¬ (4611686018427387904 : Int) < (e : Int) := by omega
  have HCs0 := hid (heap_alloc_new w (.cells (cellsOf S) 24))
  have HW0 := hid (below_alloc w (.cells (cellsOf S) 24))
  have HSz : Hid ((w.alloc (.cells (cellsOf S) 24)).heap.size = w.heap.size + 1) := by show _ = _; simp
  have HBl := hid (fun (b : Nat) (W : World) (h : VB W b (bareV self e)) => believe_any b self e (bareV self e) S W h hs (fun _ => Nat.le_refl _))
  have iC : (Tryz.prog.info? 24).map (·.size) = some (cellsOf S).size := infoBits S
  have HEnd := hid (fun (b : Nat) (W : World) => new_end (w := W) (b := b) (self := self) (e := e) (S := S))
  generalize hV : (Z.setIfInBounds 0 (.int .i64 (self : Int))).setIfInBounds 16449 (.int .u64 (e : Int)) = CV at hbv HVn
  generalize cellsOf S = CS at *
  have hsz : (self : Int) < 64 := by omega
  clear hz0 hZe hZ hl hc z1 z2 z3 z4 hV hs he hnd
  go_enter Tryz.func24, Tryz.ntmps24
  go_upto_region 1 with fail
  generalize w.alloc (.cells CS 24) = w1 at *
  go_wp2_with fail
  refine (HNd.out _).mono ?_; rintro r w2 ⟨rfl, rfl⟩
  go_wp2_with (refine wpList_built2 rfl 109 0 3 _ _ rfl (.int .i64 (self : Int)) (.int .u64 (e : Int)) rfl rfl CV hbv ?_)
  have HB3 := hid (below_alloc w2 (.cells CV 109))
  have HV3 := hid (HVn.out w2)
  have HCs3 := hid ((HB3.out.block _ (by have := HSz.out; omega)).trans HCs0.out)
  have HW3 := hid (HW0.out.trans (HB3.out.mono HW0.out.size))
  have HBd : Hid (w.heap.size ≤ w2.heap.size) := HW0.out.size
  have HBn : Hid (w.heap.size < w2.heap.size) := by have := HSz.out; show _ < _; omega
  clear HB3 HCs0 HW0 HVn hbv HSz
  generalize w2.alloc (.cells CV 109) = w3 at *
  generalize w2.heap.size = b at *
  go_wp2_with fail
  go_loopw [21] (fun c wr => ∃ k : Nat, c = .int .i64 (k : Int) ∧ k ≤ 16384 ∧ Hid (VN wr b self e k) ∧ Hid (wr.heap[w.heap.size]? = some (.cells CS 24 (0, 0))) ∧ Hid (Below w.heap.size w wr)) (fun c _ => 16384 - (intOf c).toNat)
  case atStart => exact ⟨0, rfl, Nat.zero_le _, HV3.out, HCs3.out, HW3.out⟩
  case round =>
    obtain ⟨k, rfl, hk, HVk, HCk, HWk⟩ := hrel
    by_cases hlt : k < 16384
    · have hkz : (k : Int) < 16384 := by omega
      obtain ⟨x, cO⟩ := HVk.out.cell hlt
      have fO := HVk.out.frozen (1 + k)
      have HV4 := hid (HVk.out.step hlt)
      have HC4 : Hid ((wr.setCell ⟨b, 1 + k, none⟩ (.int .i8 (-1))).heap[w.heap.size]? = some (.cells CS 24 (0, 0))) := (Below.heap_setCell _ _ _ _ (by show w.heap.size ≠ b; have := HBn.out; omega)).trans HCk.out
      have HW4 := hid (HWk.out.setCell (p := ⟨b, 1 + k, none⟩) (by show w.heap.size ≤ b; exact HBd.out) (.int .i8 (-1)))
      go_wp2_with fail
      go_roundw
      case rel => exact ⟨k + 1, by go_num, by omega, HV4.out, HC4.out, HW4.out⟩
      case measure => simp [intOf]; omega
    · obtain rfl : k = 16384 := by omega
      have HV5 := hid HVk.out.done
      go_wp2_with (refine wpList_load_row rfl 24 _ rfl w.heap.size rfl 24 _ (0, 0) _ HCk.out Tryz.underlying24 rfl iC (Hid.out ?_))
      refine hid ?_
      go_wp2_with fail
      refine (HBl.out b _ HV5.out).mono ?_; rintro r w6 ⟨⟨y, rfl⟩, hv, ho⟩
      have HV6 := hid (HEnd.out b _ hv)
      have HW6 := hid (HWk.out.trans (ho.below HBd.out HWk.out.size))
      clear hv ho
      go_wp2_with fail
      go_ret2
      exact ⟨b, rfl, HV6.out, HBd.out, HW6.out⟩

end Go.Proofs.YtbfllifgmlkndaaGreatDoor
