/- VpB, VpF. -/
import Derived.Test.YtbfllifgmlkndaaGreatDoorM27
import Derived.RangeFuncNested
import Derived.RangeFuncBound
import Derived.RangeFuncCalls
import Derived.RangeFuncLeaves
import Derived.Shelf.Abstract
import Derived.Shelf.RegionOpen
import Derived.OwnWalkIn
import Derived.TacticsInMore
import Derived.LoopNIn
import Derived.LoopIn
namespace Go.Proofs.YtbfllifgmlkndaaGreatDoor
open Go.RowKit
open Slot

theorem wrap_i8 (n : Int) : IntKind.i8.wrap n = (n + 128) % 256 - 128 := by
  simp only [IntKind.wrap, IntKind.bits, IntKind.signed]
  simp
  omega
theorem VB.one {w : World} {b : Nat} {v : Vw} (h : VB w b v) : ∃ C : Array Value, w.heap[b]? = some (.cells C 109 (0, 0)) ∧ C.size = 16450 ∧ C.all (·.oneCell') = true ∧ ∀ W c, W.heap[c]? = some (.cells C 109 (0, 0)) → VB W c v := by
  obtain ⟨C, h1, h2, h3, h4, h5, h6⟩ := h
  refine ⟨C, h1, h2, ?_, fun W c hc => ⟨C, hc, h2, h3, h4, h5, h6⟩⟩
  rw [Array.all_eq_true]
  intro i hi
  have key : ∀ x, C[i]? = some x → x.oneCell' = true → (C[i]'hi).oneCell' = true := fun x hx ho => by
    rw [Array.getElem?_eq_getElem hi] at hx
    rw [Option.some.inj hx]; exact ho
  by_cases e0 : i = 0
  · subst e0; exact key _ h3 rfl
  · by_cases e1 : i < 16385
    · exact key _ (by rw [show i = 1 + (i - 1) by omega]; exact h4 (i - 1) (by omega)) rfl
    · by_cases e2 : i < 16449
      · exact key _ (by rw [show i = 16385 + (i - 16385) by omega]; exact h5 (i - 16385) (by omega)) rfl
      · have : i = 16449 := by omega
        subst this; exact key _ h6 rfl
theorem infoV {C : Array Value} (h : C.size = 16450) : (Tryz.prog.info? 109).map (·.size) = some C.size := by rw [h]; kernel_rfl
set_option maxHeartbeats 2000000 in
set_option maxRecDepth 100000 in
/-- Clone -/
theorem clone_any (b : Nat) (v : Vw) (w : World) (hV : VB w b v) : Calls Tryz.prog 36 #[.pointer (some ⟨b, 0, none⟩)] w fun e w' => e = .returned (.pointer (some ⟨w.heap.size, 0, none⟩)) ∧ VB w' w.heap.size v ∧ Below w.heap.size w w' := by
  obtain ⟨C, h1, h2, h3, h4⟩ := hV.one
  obtain ⟨Z, z1, _, z2, z3⟩ := zview_any
  have iV := infoV h2
  have HC := hid h1
  have ON := hid h3
  have zC : Z.size = C.size := by rw [z1, h2]
  have HZ := hid (heap_alloc_new w (.cells Z 109))
  have HW := hid (below_alloc w (.cells Z 109))
  have HV4 := hid h4
  clear h1 h2 h3 h4 z1
  go_enter Tryz.func36, Tryz.ntmps36
  go_wp2_with (first | (refine wpList_load_row rfl 109 _ rfl b rfl 109 _ (0, 0) _ HC.out Tryz.underlying109 rfl iV ?_) | (refine wpList_store_row rfl 109 _ _ rfl w.heap.size C rfl rfl 109 _ HZ.out iV zC ON.out ?_))
  go_ret
  exact ⟨rfl, HV4.out _ _ (setRow_heap _ _ _ _ _ _ HZ.out), below_setRow HW.out (Nat.le_refl _) _⟩

end Go.Proofs.YtbfllifgmlkndaaGreatDoor

namespace Go.Proofs.YtbfllifgmlkndaaGreatDoor
open Go.RowKit
open Slot
attribute [local go_sem] Oper.semAt_some

/-! plain mathematics -/
/-- the slots of a set, rising -/
def slots (S : Nat → Bool) : List Nat := (List.range' 0 top).filter S
/-- the slots of ranges -/
def expand (l : List (Nat × Nat)) : List Nat := l.flatMap fun p => List.range' p.1 (p.2 + 1 - p.1)
theorem expand_snoc (l : List (Nat × Nat)) (p : Nat × Nat) : expand (l ++ [p]) = expand l ++ List.range' p.1 (p.2 + 1 - p.1) := by
  unfold expand
  rw [List.flatMap_append]
  simp
theorem filter_all {S : Nat → Bool} : ∀ (n m : Nat), (∀ k, m ≤ k → k < m + n → S k = true) → (List.range' m n).filter S = List.range' m n
  | 0, _, _ => rfl
  | n + 1, m, h => by
    rw [List.range'_succ, List.filter_cons_of_pos (h m (Nat.le_refl _) (by omega)), filter_all n (m + 1) (fun k h1 h2 => h k (by omega) (by omega))]
theorem filter_none {S : Nat → Bool} : ∀ (n m : Nat), (∀ k, m ≤ k → k < m + n → S k = false) → (List.range' m n).filter S = []
  | 0, _, _ => rfl
  | n + 1, m, h => by
    rw [List.range'_succ, List.filter_cons_of_neg (by rw [h m (Nat.le_refl _) (by omega)]; decide), filter_none n (m + 1) (fun k h1 h2 => h k (by omega) (by omega))]
theorem runs_expand {S : Nat → Bool} : ∀ {l : List (Nat × Nat)} {m : Nat}, m ≤ top → Runs S m l → (List.range' m (top - m)).filter S = expand l
  | [], m, hm, h => filter_none _ _ (fun k h1 h2 => h k h1 (by omega))
  | (f, t) :: l, m, hm, ⟨h1, h2, h3, h4, h5, h6, h7⟩ => by
    have e1 : List.range' m (top - m) = List.range' m (f - m) ++ (List.range' f (t + 1 - f) ++ List.range' (t + 1) (top - (t + 1))) := by
      have a1 := List.range'_append (s := f) (m := t + 1 - f) (n := top - (t + 1)) (step := 1)
      have a2 := List.range'_append (s := m) (m := f - m) (n := top - f) (step := 1)
      rw [show f + 1 * (t + 1 - f) = t + 1 by omega, show (t + 1 - f) + (top - (t + 1)) = top - f by omega] at a1
      rw [show m + 1 * (f - m) = f by omega, show (f - m) + (top - f) = top - m by omega] at a2
      rw [a1, a2]
    rw [e1, List.filter_append, List.filter_append, filter_none _ _ (fun k a b => h4 k a (by omega)), filter_all _ _ (fun k a b => h5 k a (by omega)), runs_expand (by omega) h7, List.nil_append]
    rfl
theorem slots_expand {S : Nat → Bool} {l : List (Nat × Nat)} (h : Runs S 0 l) : expand l = slots S := (runs_expand (Nat.zero_le _) h).symm
theorem slots_mem {S : Nat → Bool} {t : Nat} : t ∈ slots S ↔ t < top ∧ S t = true := by
  unfold slots
  rw [List.mem_filter, List.mem_range'_1]
  exact ⟨fun h => ⟨by omega, h.2⟩, fun h => ⟨by omega, h.2⟩⟩
theorem slots_len (S : Nat → Bool) : (slots S).length ≤ 16384 := by
  have := List.length_filter_le S (List.range' 0 top)
  rw [List.length_range'] at this
  exact this
theorem expand_take {l : List (Nat × Nat)} {i : Nat} (h : i < l.length) : expand (l.take (i + 1)) = expand (l.take i) ++ List.range' l[i].1 (l[i].2 + 1 - l[i].1) := by
  rw [List.take_succ_eq_append_getElem h, expand_snoc]
theorem expand_prefix (l : List (Nat × Nat)) (i : Nat) : expand (l.take i) <+: expand l := by
  conv => rhs; rw [← List.take_append_drop i l]
  unfold expand
  rw [List.flatMap_append]
  exact List.prefix_append _ _
/-- a slot -/
abbrev Sl := { x : Nat // x < 16384 }
/-- all rows of cells but block b lie as they lay -/
def KpB (b : Nat) (W W' : World) : Prop := ∀ (k : Nat) (C : Array Value) (t : TypeId) (fr : Nat × Nat), k ≠ b → W.heap[k]? = some (.cells C t fr) → W'.heap[k]? = some (.cells C t fr)
theorem kpb_t {b : Nat} {A B C : World} (h : KpB b A B) (k : KpB b B C) : KpB b A C := fun i X t fr hi hx => k i X t fr hi (h i X t fr hi hx)
theorem kpb_b {b : Nat} (W : World) (l : Nat) (o o' : Obj) (h : W.heap[l]? = some o) (hc : o.isCells = false) : KpB b W (W.putObj l o') := fun i X t fr _ hx => by
  by_cases e : i = l
  · subst e
    rw [h] at hx
    cases Option.some.inj hx
    cases hc
  · exact (World.putObj_heap_other e).trans hx
theorem kpb_below {b n : Nat} {W W' : World} (h : Below n W W') (hn : W.heap.size ≤ n) : KpB b W W' := fun i _ _ _ _ hx => (h.block i (Nat.lt_of_lt_of_le (Array.getElem?_eq_some_iff.1 hx).1 hn)).trans hx
theorem kpb_only {b : Nat} {W W' : World} (h : Only b W W') : KpB b W W' := fun i _ _ _ hi hx => (h.block i (Array.getElem?_eq_some_iff.1 hx).1 hi).trans hx
/-- the ranges in memory -/
def RowC (w : World) (g : Nat) (l : List (Nat × Nat)) : Prop := ∃ C t fr, w.heap[g]? = some (.cells C t fr) ∧ ∀ j (h : j < l.length), C[j * 2]? = some (.int .i64 (l[j].1 : Int)) ∧ C[j * 2 + 1]? = some (.int .i64 (l[j].2 : Int))
theorem RowC.kept {b g : Nat} {W W' : World} {l : List (Nat × Nat)} (h : RowC W g l) (hk : KpB b W W') (hg : g ≠ b) : RowC W' g l := by
  obtain ⟨C, t, fr, h1, h2⟩ := h
  exact ⟨C, t, fr, hk g C t fr hg h1, h2⟩
theorem RowC.cell {g : Nat} {W : World} {l : List (Nat × Nat)} (h : RowC W g l) {j : Nat} (hj : j < l.length) : W.cell? ⟨g, j * 2, none⟩ = some (.int .i64 (l[j].1 : Int)) ∧ W.cell? ⟨g, j * 2 + 1, none⟩ = some (.int .i64 (l[j].2 : Int)) := by
  obtain ⟨C, t, fr, h1, h2⟩ := h
  rw [cell_of_row _ _ _ _ _ _ h1, cell_of_row _ _ _ _ _ _ h1]
  exact h2 j hj
theorem owns_rowC {w : World} {B : Nat} {l : List (Nat × Nat)} {v : Value} (h : w.ownsRow B 116 2 v l.length (flat l)) : ∃ a cap, v = .slice a l.length cap ∧ (l ≠ [] → ∃ g, a = some ⟨g, 0, none⟩ ∧ B ≤ g ∧ RowC w g l) := by
  rcases h.2 with ⟨rfl, h0⟩ | ⟨g, cap, cur, rfl, hg, hh, h1, h2, h3, h4⟩
  · exact ⟨none, 0, by rw [h0], fun hne => absurd (List.length_eq_zero_iff.1 h0) hne⟩
  · refine ⟨_, cap, rfl, fun _ => ⟨g, rfl, hg, cur, _, _, hh, fun j hj => ?_⟩⟩
    obtain ⟨f1, f2⟩ := flat_get l j hj
    have key : ∀ i u, (flat l)[i]? = some u → cur[i]? = some u := fun i u hu => by
      have hi := (List.getElem?_eq_some_iff.1 hu).1
      rw [flat_length] at hi
      have := congrArg (fun x : List Value => x[i]?) h4
      simp only [List.getElem?_take, if_pos hi] at this
      rw [hu] at this
      simpa using this
    exact ⟨key _ _ f1, key _ _ f2⟩
set_option maxHeartbeats 1000000 in
/-- slotsOf -/
theorem slotsof_any (S : Nat → Bool) (w : World) : Calls Tryz.prog 76 #[.agg (cellsOf S)] w fun e w' => e = .returned (.func (.func 93) #[] #[.pointer (some ⟨w.heap.size, 0, none⟩)]) ∧ w' = w.alloc (.cells (cellsOf S) 24) := by
  generalize cellsOf S = C
  go_enter Tryz.func76, Tryz.ntmps76
  go_wp2
  go_ret
  exact ⟨rfl, rfl⟩

end Go.Proofs.YtbfllifgmlkndaaGreatDoor
