/- VpF, VpG, VpH, VpR. -/
import Derived.RangeFuncNested
import Derived.RangeFuncBound
import Derived.RangeFuncCalls
import Derived.RangeFuncLeaves
import Derived.Shelf.Abstract
import Derived.Shelf.RegionOpen
import Derived.OwnWalkIn
import Derived.TacticsInMore
import Derived.LoopNIn
import Derived.LoopIn
import Derived.Test.YtdicjnkbmlamgabM13
import Derived.OrdersIn
import Derived.RegionIn
namespace Go.Proofs.Ytdicjnkbmlamgab
open Go.RowKit
open Slot
attribute [local go_sem] Oper.semAt_some

/-! plain mathematics -/
/-- the slots of a set, rising -/
def slots (S : Nat → Bool) : List Nat := (List.range' 0 top).filter S
/-- the slots of ranges -/
def expand (l : List (Nat × Nat)) : List Nat := l.flatMap fun p => List.range' p.1 (p.2 + 1 - p.1)
theorem expand_snoc (l : List (Nat × Nat)) (p : Nat × Nat) : expand (l ++ [p]) = expand l ++ List.range' p.1 (p.2 + 1 - p.1) := by
  unfold expand
  rw [List.flatMap_append]
  simp
theorem filter_all {S : Nat → Bool} : ∀ (n m : Nat), (∀ k, m ≤ k → k < m + n → S k = true) → (List.range' m n).filter S = List.range' m n
  | 0, _, _ => rfl
  | n + 1, m, h => by
    rw [List.range'_succ, List.filter_cons_of_pos (h m (Nat.le_refl _) (by omega)), filter_all n (m + 1) (fun k h1 h2 => h k (by omega) (by omega))]
theorem filter_none {S : Nat → Bool} : ∀ (n m : Nat), (∀ k, m ≤ k → k < m + n → S k = false) → (List.range' m n).filter S = []
  | 0, _, _ => rfl
  | n + 1, m, h => by
    rw [List.range'_succ, List.filter_cons_of_neg (by rw [h m (Nat.le_refl _) (by omega)]; decide), filter_none n (m + 1) (fun k h1 h2 => h k (by omega) (by omega))]
theorem runs_expand {S : Nat → Bool} : ∀ {l : List (Nat × Nat)} {m : Nat}, m ≤ top → Runs S m l → (List.range' m (top - m)).filter S = expand l
  | [], m, hm, h => filter_none _ _ (fun k h1 h2 => h k h1 (by omega))
  | (f, t) :: l, m, hm, ⟨h1, h2, h3, h4, h5, h6, h7⟩ => by
    have e1 : List.range' m (top - m) = List.range' m (f - m) ++ (List.range' f (t + 1 - f) ++ List.range' (t + 1) (top - (t + 1))) := by
      have a1 := List.range'_append (s := f) (m := t + 1 - f) (n := top - (t + 1)) (step := 1)
      have a2 := List.range'_append (s := m) (m := f - m) (n := top - f) (step := 1)
      rw [show f + 1 * (t + 1 - f) = t + 1 by omega, show (t + 1 - f) + (top - (t + 1)) = top - f by omega] at a1
      rw [show m + 1 * (f - m) = f by omega, show (f - m) + (top - f) = top - m by omega] at a2
      rw [a1, a2]
    rw [e1, List.filter_append, List.filter_append, filter_none _ _ (fun k a b => h4 k a (by omega)), filter_all _ _ (fun k a b => h5 k a (by omega)), runs_expand (by omega) h7, List.nil_append]
    rfl
theorem slots_expand {S : Nat → Bool} {l : List (Nat × Nat)} (h : Runs S 0 l) : expand l = slots S := (runs_expand (Nat.zero_le _) h).symm
theorem slots_mem {S : Nat → Bool} {t : Nat} : t ∈ slots S ↔ t < top ∧ S t = true := by
  unfold slots
  rw [List.mem_filter, List.mem_range'_1]
  exact ⟨fun h => ⟨by omega, h.2⟩, fun h => ⟨by omega, h.2⟩⟩
theorem slots_len (S : Nat → Bool) : (slots S).length ≤ 16384 := by
  have := List.length_filter_le S (List.range' 0 top)
  rw [List.length_range'] at this
  exact this
theorem expand_take {l : List (Nat × Nat)} {i : Nat} (h : i < l.length) : expand (l.take (i + 1)) = expand (l.take i) ++ List.range' l[i].1 (l[i].2 + 1 - l[i].1) := by
  rw [List.take_succ_eq_append_getElem h, expand_snoc]
theorem expand_prefix (l : List (Nat × Nat)) (i : Nat) : expand (l.take i) <+: expand l := by
  conv => rhs; rw [← List.take_append_drop i l]
  unfold expand
  rw [List.flatMap_append]
  exact List.prefix_append _ _
/-- a slot -/
abbrev Sl := { x : Nat // x < 16384 }
/-- all rows of cells but block b lie as they lay -/
def KpB (b : Nat) (W W' : World) : Prop := ∀ (k : Nat) (C : Array Value) (t : TypeId) (fr : Nat × Nat), k ≠ b → W.heap[k]? = some (.cells C t fr) → W'.heap[k]? = some (.cells C t fr)
theorem kpb_t {b : Nat} {A B C : World} (h : KpB b A B) (k : KpB b B C) : KpB b A C := fun i X t fr hi hx => k i X t fr hi (h i X t fr hi hx)
theorem kpb_b {b : Nat} (W : World) (l : Nat) (o o' : Obj) (h : W.heap[l]? = some o) (hc : o.isCells = false) : KpB b W (W.putObj l o') := fun i X t fr _ hx => by
  by_cases e : i = l
  · subst e
    rw [h] at hx
    cases Option.some.inj hx
    cases hc
  · exact (World.putObj_heap_other e).trans hx
theorem kpb_below {b n : Nat} {W W' : World} (h : Below n W W') (hn : W.heap.size ≤ n) : KpB b W W' := fun i _ _ _ _ hx => (h.block i (Nat.lt_of_lt_of_le (Array.getElem?_eq_some_iff.1 hx).1 hn)).trans hx
theorem kpb_only {b : Nat} {W W' : World} (h : Only b W W') : KpB b W W' := fun i _ _ _ hi hx => (h.block i (Array.getElem?_eq_some_iff.1 hx).1 hi).trans hx
/-- the ranges in memory -/
def RowC (w : World) (g : Nat) (l : List (Nat × Nat)) : Prop := ∃ C t fr, w.heap[g]? = some (.cells C t fr) ∧ ∀ j (h : j < l.length), C[j * 2]? = some (.int .i64 (l[j].1 : Int)) ∧ C[j * 2 + 1]? = some (.int .i64 (l[j].2 : Int))
theorem RowC.kept {b g : Nat} {W W' : World} {l : List (Nat × Nat)} (h : RowC W g l) (hk : KpB b W W') (hg : g ≠ b) : RowC W' g l := by
  obtain ⟨C, t, fr, h1, h2⟩ := h
  exact ⟨C, t, fr, hk g C t fr hg h1, h2⟩
theorem RowC.cell {g : Nat} {W : World} {l : List (Nat × Nat)} (h : RowC W g l) {j : Nat} (hj : j < l.length) : W.cell? ⟨g, j * 2, none⟩ = some (.int .i64 (l[j].1 : Int)) ∧ W.cell? ⟨g, j * 2 + 1, none⟩ = some (.int .i64 (l[j].2 : Int)) := by
  obtain ⟨C, t, fr, h1, h2⟩ := h
  rw [cell_of_row _ _ _ _ _ _ h1, cell_of_row _ _ _ _ _ _ h1]
  exact h2 j hj
theorem owns_rowC {w : World} {B : Nat} {l : List (Nat × Nat)} {v : Value} (h : w.ownsRow B 81 2 v l.length (flat l)) : ∃ a cap, v = .slice a l.length cap ∧ (l ≠ [] → ∃ g, a = some ⟨g, 0, none⟩ ∧ B ≤ g ∧ RowC w g l) := by
  rcases h.2 with ⟨rfl, h0⟩ | ⟨g, cap, cur, rfl, hg, hh, h1, h2, h3, h4⟩
  · exact ⟨none, 0, by rw [h0], fun hne => absurd (List.length_eq_zero_iff.1 h0) hne⟩
  · refine ⟨_, cap, rfl, fun _ => ⟨g, rfl, hg, cur, _, _, hh, fun j hj => ?_⟩⟩
    obtain ⟨f1, f2⟩ := flat_get l j hj
    have key : ∀ i u, (flat l)[i]? = some u → cur[i]? = some u := fun i u hu => by
      have hi := (List.getElem?_eq_some_iff.1 hu).1
      rw [flat_length] at hi
      have := congrArg (fun x : List Value => x[i]?) h4
      simp only [List.getElem?_take, if_pos hi] at this
      rw [hu] at this
      simpa using this
    exact ⟨key _ _ f1, key _ _ f2⟩
set_option maxHeartbeats 1000000 in
/-- slotsOf -/
theorem slotsof_any (S : Nat → Bool) (w : World) : Calls Try.prog 36 #[.agg (cellsOf S)] w fun e w' => e = .returned (.func (.func 47) #[] #[.pointer (some ⟨w.heap.size, 0, none⟩)]) ∧ w' = w.alloc (.cells (cellsOf S) 24) := by
  generalize cellsOf S = C
  go_enter Try.func36, Try.ntmps36
  go_wp2
  go_ret
  exact ⟨rfl, rfl⟩

end Go.Proofs.Ytdicjnkbmlamgab

namespace Go.Proofs.Ytdicjnkbmlamgab
open Go.RowKit Go.Shelf
open Slot
attribute [local go_sem] Oper.semAt_some

theorem abides_below {β : Type} {B : Nat} {J : β → World → Prop} (h : AbidesFrom B J) {s : β} {W W' : World} (hs : J s W) (hb : Below W.heap.size W W') : J s W' :=
  h s W W' none hs ⟨hb.os, hb.tape, hb.output, hb.size, fun k hk _ => hb.block k hk⟩ (fun r e => by cases e)
theorem range_snoc {f m : Nat} (h : f ≤ m) : List.range' f (m + 1 - f) = List.range' f (m - f) ++ [m] := by
  rw [show m + 1 - f = (m - f) + 1 by omega, List.range'_concat]
  simp; omega
theorem pre_slots {S : Nat → Bool} {L : List (Nat × Nat)} {i m f t : Nat} (hi : i < L.length) (hL : expand L = slots S) (hf : L[i].1 = f) (ht : L[i].2 = t) (hm : m ≤ t) (hfm : f ≤ m) : expand (L.take i) ++ List.range' f (m + 1 - f) <+: slots S := by
  rw [← hL]
  refine List.IsPrefix.trans ?_ (expand_prefix L (i + 1))
  rw [expand_take hi, hf, ht]
  refine (List.prefix_append_right_inj _).2 ?_
  have := List.range'_append (s := f) (m := m + 1 - f) (n := t - m) (step := 1)
  rw [show (m + 1 - f) + (t - m) = t + 1 - f by omega] at this
  rw [← this]
  exact List.prefix_append _ _
theorem pre_len {S : Nat → Bool} {p : List Sl} {l : List Nat} {m : Nat} (hp : p.map (·.1) = l) (h : l ++ [m] <+: slots S) : p.length < 16384 := by
  have h1 := h.length_le
  have h2 := slots_len S
  have h3 := congrArg List.length hp
  rw [List.length_map] at h3
  rw [List.length_append] at h1
  simp at h1
  omega
set_option maxRecDepth 100000 in
set_option maxHeartbeats 4000000 in
theorem slots_stops (n bn b : Nat) (S : Nat → Bool) (w : World) (hn : 1 ≤ n) (hB : Box w bn S) (hb : b < w.heap.size) : SeqStopsK Fence.wide n Try.prog 47 #[.pointer (some ⟨bn, 0, none⟩)] (fun x : Sl => #[.int .i64 (x.1 : Int)]) (KpB b) (fun xs => xs.map (·.1) = slots S) (fun pre => pre.map (·.1) <+: slots S) 16384 w := by
  intro l J Jx W hW hJ hJx hY h0
  have HB := hid (hB.below hW hB.lt)
  have HRg := hid (ranges_any S W)
  have hbW : b < W.heap.size := Nat.lt_of_lt_of_le hb hW.size
  have HbW := hid hbW
  have HJ := hid hJ
  have HY := hid hY
  have HJ0 := hid h0
  clear hB hW hJ hJx hY h0 hb hbW
  refine callsIn_of_wp Try.func47 rfl trivial ?_ rfl
  simp only [Try.ntmps47, List.size_toArray, List.length_cons, List.length_nil, Nat.reduceAdd, Nat.reduceSub, Array.replicate_succ, Array.replicate_zero, List.push_toArray, List.append_toArray, List.nil_append, List.cons_append]
  refine wpIn_seq (wpIn_wide.2 ?_)
  go_wp2_with (refine wpList_load_row rfl 24 _ rfl bn rfl 24 _ (0, 0) _ HB.out Try.underlying24 rfl (infoBits _) ?_)
  refine HRg.out.mono ?_; rintro e W1 ⟨⟨L, v, rfl, hR, ho⟩, hb1⟩
  obtain ⟨a, cap, rfl, hrow⟩ := owns_rowC ho
  have HJ1 := hid (abides_below HJ.out HJ0.out hb1)
  have HL := hid (slots_expand hR)
  have HV := hid hR.valid
  have HRow := hid hrow
  have hl1 : L.length ≤ 16384 := by have := hR.length (Nat.zero_le _); unfold top at this; omega
  have HbW1 : Hid (b < W1.heap.size) := Nat.lt_of_lt_of_le HbW.out hb1.size
  have HBase : Hid (b < W.heap.size + 2) := by have := HbW.out; show b < _; omega
  clear hR ho hrow hb1
  go_wp2_with fail
  gi_wp2
  gi_loopw [9] (fun c9 wr => ∃ (i : Nat) (pre : List Sl), c9 = .int .i64 (i : Int) ∧ i ≤ L.length ∧ Hid (pre.map (·.1) = expand (L.take i)) ∧ Hid (J pre wr) ∧ Hid (L ≠ [] → ∃ g, a = some ⟨g, 0, none⟩ ∧ W.heap.size + 2 ≤ g ∧ RowC wr g L) ∧ Hid (b < wr.heap.size)) (fun c9 _ => L.length - (intOf c9).toNat)
  case atStart => exact ⟨0, [], rfl, Nat.zero_le _, rfl, HJ1.out, HRow.out, HbW1.out⟩
  case round =>
    obtain ⟨i, pre, rfl, hi, HP, HJi, HRi, Hbi⟩ := hrel
    by_cases hlt : i < L.length
    · obtain ⟨g, rfl, hg, hrw⟩ := HRi.out (fun e => by rw [e] at hlt; exact absurd hlt (Nat.not_lt_zero _))
      obtain ⟨f, hf⟩ : ∃ f, L[i].1 = f := ⟨_, rfl⟩
      obtain ⟨t, ht⟩ : ∃ t, L[i].2 = t := ⟨_, rfl⟩
      obtain ⟨c0, c1⟩ := hrw.cell hlt
      rw [hf] at c0
      rw [ht] at c1
      have hv := HV.out L[i] (List.getElem_mem hlt)
      rw [hf, ht] at hv
      have HFt := hid hv
      have HPr : Hid (∀ m, m ≤ t → f ≤ m → expand (L.take i) ++ List.range' f (m + 1 - f) <+: slots S) := fun m h1 h2 => pre_slots hlt HL.out hf ht h1 h2
      have HNx : Hid (expand (L.take (i + 1)) = expand (L.take i) ++ List.range' f (t + 1 - f)) := by
        show _ = _
        rw [expand_take hlt, hf, ht]
      have hiz : (i : Int) < (L.length : Int) := by omega
      have HGb : Hid (g ≠ b) := by have := HBase.out; show g ≠ b; omega
      have HNb : Hid (b < wr.heap.size) := Hbi.out
      have HR0 := hid (hrw.kept (kpb_below (b := b) (below_alloc wr (.cells #[.int .i64 (f : Int), .int .i64 (t : Int)] 81)) (Nat.le_refl _)) HGb.out)
      have HJ0 := hid (abides_below HJ.out HJi.out (below_alloc wr (.cells #[.int .i64 (f : Int), .int .i64 (t : Int)] 81)))
      have HC0 := hid (heap_alloc_new wr (.cells #[.int .i64 (f : Int), .int .i64 (t : Int)] 81))
      have Hb0 : Hid (b < (wr.alloc (.cells #[.int .i64 (f : Int), .int .i64 (t : Int)] 81)).heap.size) := by have := Hbi.out; show b < _; simp; omega
      have hc0 : (wr.alloc (.cells #[.int .i64 (f : Int), .int .i64 (t : Int)] 81)).cell? ⟨wr.heap.size, 0, none⟩ = some (.int .i64 (f : Int)) := cell_of_row _ _ _ _ _ _ HC0.out
      clear hrw hf ht hv HRi
      gi_wp2
      generalize wr.alloc (.cells #[.int .i64 (f : Int), .int .i64 (t : Int)] 81) = w0 at *
      generalize wr.heap.size = n0 at *
      gi_loopw [5] (fun c5 wi => ∃ (m : Nat) (pre2 : List Sl), c5 = .int .i64 (m : Int) ∧ f ≤ m ∧ m ≤ t + 1 ∧ Hid (pre2.map (·.1) = expand (L.take i) ++ List.range' f (m - f)) ∧ Hid (J pre2 wi) ∧ Hid (RowC wi g L) ∧ Hid (∃ fr, wi.heap[n0]? = some (.cells #[.int .i64 (f : Int), .int .i64 (t : Int)] 81 fr)) ∧ Hid (b < wi.heap.size)) (fun c5 _ => t + 1 - (intOf c5).toNat)
      case atStart => exact ⟨f, pre, rfl, Nat.le_refl _, by have := HFt.out; omega, by show _ = _; rw [HP.out]; simp, HJ0.out, HR0.out, ⟨_, HC0.out⟩, Hb0.out⟩
      case round =>
        obtain ⟨m, pre2, rfl, hm1, hm2, HP2, HJm, HRm, HCm, Hbm⟩ := hrel
        obtain ⟨fr, hfr⟩ := HCm.out
        have ct : wr.cell? ⟨n0, 1, none⟩ = some (.int .i64 (t : Int)) := cell_of_row _ _ _ _ _ _ hfr
        by_cases hmt : m ≤ t
        · have hmz : (m : Int) ≤ (t : Int) := by omega
          have hpr := HPr.out m hmt hm1
          rw [range_snoc hm1, ← List.append_assoc] at hpr
          have hm16 : m < 16384 := by have := HFt.out.2; unfold top at this; omega
          obtain ⟨fn, tmps, assign, body, hy, hR⟩ := HY.out pre2 ⟨m, hm16⟩ wr HJm.out (pre_len HP2.out hpr)
          dsimp only at hy
          have HPx : Hid ((pre2 ++ [(⟨m, hm16⟩ : Sl)]).map (·.1) = expand (L.take i) ++ List.range' f (m + 1 - f)) := by
            show _ = _
            rw [List.map_append, HP2.out, range_snoc hm1, ← List.append_assoc]
            rfl
          have HPz := hid hpr
          clear hpr
          gi_wp2
          refine hR.mono ?_
          rintro e W3 (⟨rfl, hJ3, hk3⟩ | ⟨rfl, hJx3⟩)
          · have HR3 := hid (HRm.out.kept hk3 HGb.out)
            have HC3 : Hid (∃ fr, W3.heap[n0]? = some (.cells #[.int .i64 (f : Int), .int .i64 (t : Int)] 81 fr)) := ⟨fr, hk3 _ _ _ _ (Nat.ne_of_gt HNb.out) hfr⟩
            have HR3b := hid hJ3
            have Hb3 : Hid (b < W3.heap.size) := by
              obtain ⟨fr2, h1⟩ := HC3.out
              have := (Array.getElem?_eq_some_iff.1 h1).1
              exact Nat.lt_trans HNb.out this
            clear hJ3 hk3 hfr ct
            gi_wp2
            go_roundw
            case rel => exact ⟨m + 1, pre2 ++ [(⟨m, hm16⟩ : Sl)], by go_num, by omega, by omega, HPx.out, HR3b.out, HR3.out, HC3.out, Hb3.out⟩
            case measure => simp [intOf]; omega
          · have HX := hid hJx3
            clear hJx3 hfr ct
            gi_wp2
            refine bodyPost_ret (results_none rfl _ _ _) rfl ?_
            refine ⟨⟨_, rfl⟩, .inr ⟨pre2 ++ [(⟨m, hm16⟩ : Sl)], ?_, HX.out⟩⟩
            rw [HPx.out, range_snoc hm1, ← List.append_assoc]
            exact HPz.out
        · obtain rfl : m = t + 1 := by omega
          have HPn : Hid (pre2.map (·.1) = expand (L.take (i + 1))) := by show _ = _; rw [HNx.out]; exact HP2.out
          clear hfr
          have hmz : ((t : Int) + 1 ≤ (t : Int)) = False := by simp; omega
          gi_wp2
          go_roundw
          case rel => exact ⟨i + 1, pre2, by go_num, by omega, HPn.out, HJm.out, fun _ => ⟨g, rfl, hg, HRm.out⟩, Hbm.out⟩
          case measure => simp [intOf]; omega
    · obtain rfl : i = L.length := by omega
      have HPf : Hid (pre.map (·.1) = slots S) := by
        have := HP.out
        rw [List.take_length, HL.out] at this
        exact this
      gi_wp2
      go_end0
      exact ⟨⟨_, rfl⟩, .inl ⟨pre, HPf.out, HJi.out⟩⟩

end Go.Proofs.Ytdicjnkbmlamgab

namespace Go.Proofs.Ytdicjnkbmlamgab
open Go.RowKit Go.Shelf
open Slot
attribute [local go_sem] Oper.semAt_some

theorem VB.congr {w : World} {b : Nat} {v v' : Vw} (h : VB w b v) (h1 : v'.self = v.self) (h2 : ∀ s, s < 16384 → v'.own s = v.own s) (h3 : ∀ n, n < 64 → v'.ep n = v.ep n) (h4 : v'.cur = v.cur) : VB w b v' := by
  obtain ⟨C, c1, c2, c3, c4, c5, c6⟩ := h
  exact ⟨C, c1, c2, by rw [h1]; exact c3, fun s hs => by rw [h2 s hs]; exact c4 s hs, fun n hn => by rw [h3 n hn]; exact c5 n hn, by rw [h4]; exact c6⟩
/-- the owners as they are read at once -/
theorem VB.owners {w : World} {b : Nat} {v : Vw} (h : VB w b v) : ∃ OW : Array Value, OW.size = 16384 ∧ (∀ s, s < 16384 → OW[s]? = some (.int .i8 (ownZ (v.own s)))) ∧ w.rangeAt b 1 OW.toList := by
  obtain ⟨C, c1, c2, c3, c4, c5, c6⟩ := h
  refine ⟨C.extract 1 16385, by rw [Array.size_extract, c2]; decide, fun s hs => ?_, fun j u hu => ?_⟩
  · rw [Array.getElem?_extract, if_pos (by omega)]; exact c4 s hs
  · have hj : j < 16384 := by
      have := (List.getElem?_eq_some_iff.1 hu).1
      rwa [Array.length_toList, Array.size_extract, c2] at this
    rw [Array.getElem?_toList, Array.getElem?_extract, if_pos (by omega)] at hu
    rw [cell_of_row w b _ _ _ _ c1]; exact hu
theorem index_own {OW : Array Value} {z : Value} {s : Nat} (hs : s < 16384) (h : OW[s]? = some z) (w : World) : (Instr.index 65 (.agg OW) (.int .i64 (s : Int))).run Try.prog w = .ok z w := by
  have h1 : (0 : Int) ≤ (s : Int) ∧ (s : Int) < 16384 := by omega
  simp [Instr.index, asIntOf, run_underlying Try.underlying65, hs, h1, part, Try.isAgg64, Try.sizeOf64, h]
theorem infoOwn {OW : Array Value} (h : OW.size = 16384) : (Try.prog.info? 65).map (·.size) = some OW.toList.length := by
  rw [Array.length_toList, h]; kernel_rfl
/-- the view with the epoch, and the slots below k given up -/
def bl1 (v : Vw) (n e : Nat) : Vw := { v with ep := fun m => if m = n then e else v.ep m }
def bl2 (v : Vw) (n e k : Nat) : Vw := { bl1 v n e with own := fun s => if s < k ∧ v.own s = n then 64 else v.own s }
/-- the view with the slots of a list taken -/
def bl3 (v : Vw) (n e : Nat) (l : List Nat) : Vw := { bl1 v n e with own := fun s => if s ∈ l ∧ ((bl2 v n e 16384).own s = 64 ∨ (bl1 v n e).ep ((bl2 v n e 16384).own s) < e) then n else (bl2 v n e 16384).own s }
theorem bl2_step {v : Vw} {n e k : Nat} {w : World} {b : Nat} (h : VB w b (bl2 v n e k)) (hk : k < 16384) (hn : v.own k = n) : VB (w.setCell ⟨b, 1 + k, none⟩ (.int .i8 (-1))) b (bl2 v n e (k + 1)) := by
  have := h.setOwn (n := 64) hk
  rw [show ownZ 64 = -1 from rfl] at this
  refine this.congr rfl (fun s _ => ?_) (fun _ _ => rfl) rfl
  show (if s < k + 1 ∧ v.own s = n then 64 else v.own s) = if s = k then 64 else (if s < k ∧ v.own s = n then 64 else v.own s)
  by_cases c : s = k
  · rw [c, if_pos ⟨Nat.lt_succ_self _, hn⟩, if_pos rfl]
  · rw [if_neg c]
    by_cases d : s < k ∧ v.own s = n
    · rw [if_pos d, if_pos ⟨by omega, d.2⟩]
    · rw [if_neg d, if_neg (fun x => d ⟨by omega, x.2⟩)]
theorem bl2_same {v : Vw} {n e k : Nat} {w : World} {b : Nat} (h : VB w b (bl2 v n e k)) (hn : v.own k ≠ n) : VB w b (bl2 v n e (k + 1)) := by
  refine h.congr rfl (fun s _ => ?_) (fun _ _ => rfl) rfl
  show (if s < k + 1 ∧ v.own s = n then 64 else v.own s) = if s < k ∧ v.own s = n then 64 else v.own s
  by_cases d : s < k ∧ v.own s = n
  · rw [if_pos d, if_pos ⟨by omega, d.2⟩]
  · rw [if_neg d, if_neg (fun x => d ⟨by
      have := x.1
      have : s ≠ k := fun c => hn (by rw [← c]; exact x.2)
      omega, x.2⟩)]
/-- is it taken? -/
def tkB (v : Vw) (n e : Nat) (l : List Nat) (x : Nat) : Prop := (bl3 v n e l).own x = 64 ∨ (bl1 v n e).ep ((bl3 v n e l).own x) < e
theorem bl3_at {v : Vw} {n e : Nat} {l : List Nat} {x : Nat} : (bl3 v n e l).own x = n ∨ (bl3 v n e l).own x = (bl2 v n e 16384).own x := by
  show (if _ then n else _) = n ∨ (if _ then n else _) = _
  split
  · exact .inl rfl
  · exact .inr rfl
theorem bl3_take {v : Vw} {n e : Nat} {w : World} {b x : Nat} {l : List Nat} (h : VB w b (bl3 v n e l)) (hx : x < 16384) (hn : n < 64) (ht : tkB v n e l x) : VB (w.setCell ⟨b, 1 + x, none⟩ (.int .i8 (n : Int))) b (bl3 v n e (l ++ [x])) := by
  have hz : (n : Int) = ownZ n := by unfold ownZ; rw [if_pos hn]
  rw [hz]
  refine (h.setOwn (n := n) hx).congr rfl (fun s _ => ?_) (fun _ _ => rfl) rfl
  have hne : ¬ ((n = 64) ∨ (bl1 v n e).ep n < e) := by
    show ¬ ((n = 64) ∨ (if n = n then e else v.ep n) < e)
    rw [if_pos rfl]; omega
  have hbx : (bl2 v n e 16384).own x = 64 ∨ (bl1 v n e).ep ((bl2 v n e 16384).own x) < e := by
    rcases bl3_at (v := v) (e := e) (l := l) (x := x) with c | c
    · unfold tkB at ht; rw [c] at ht; exact absurd ht hne
    · unfold tkB at ht; rw [c] at ht; exact ht
  show (if s ∈ l ++ [x] ∧ ((bl2 v n e 16384).own s = 64 ∨ (bl1 v n e).ep ((bl2 v n e 16384).own s) < e) then n else (bl2 v n e 16384).own s) = if s = x then n else (if s ∈ l ∧ ((bl2 v n e 16384).own s = 64 ∨ (bl1 v n e).ep ((bl2 v n e 16384).own s) < e) then n else (bl2 v n e 16384).own s)
  by_cases c : s = x
  · subst c
    rw [if_pos rfl, if_pos ⟨by simp, hbx⟩]
  · rw [if_neg c]
    by_cases d : s ∈ l
    · by_cases q : (bl2 v n e 16384).own s = 64 ∨ (bl1 v n e).ep ((bl2 v n e 16384).own s) < e
      · rw [if_pos ⟨List.mem_append_left _ d, q⟩, if_pos ⟨d, q⟩]
      · rw [if_neg (fun z => q z.2), if_neg (fun z => q z.2)]
    · rw [if_neg (fun z => by
        rcases List.mem_append.1 z.1 with y | y
        · exact d y
        · exact c (List.mem_singleton.1 y)), if_neg (fun z => d z.1)]
theorem bl3_keep {v : Vw} {n e : Nat} {w : World} {b x : Nat} {l : List Nat} (h : VB w b (bl3 v n e l)) (ht : ¬ tkB v n e l x) : VB w b (bl3 v n e (l ++ [x])) := by
  refine h.congr rfl (fun s _ => ?_) (fun _ _ => rfl) rfl
  show (if s ∈ l ++ [x] ∧ ((bl2 v n e 16384).own s = 64 ∨ (bl1 v n e).ep ((bl2 v n e 16384).own s) < e) then n else (bl2 v n e 16384).own s) = (if s ∈ l ∧ ((bl2 v n e 16384).own s = 64 ∨ (bl1 v n e).ep ((bl2 v n e 16384).own s) < e) then n else (bl2 v n e 16384).own s)
  by_cases d : s ∈ l
  · by_cases q : (bl2 v n e 16384).own s = 64 ∨ (bl1 v n e).ep ((bl2 v n e 16384).own s) < e
    · rw [if_pos ⟨List.mem_append_left _ d, q⟩, if_pos ⟨d, q⟩]
    · rw [if_neg (fun z => q z.2), if_neg (fun z => q z.2)]
  · by_cases c : s = x
    · subst c
      have e1 : (bl3 v n e l).own s = (bl2 v n e 16384).own s := if_neg (fun z => d z.1)
      rw [if_neg (fun z => ht (by unfold tkB; rw [e1]; exact z.2)), if_neg (fun z => d z.1)]
    · rw [if_neg (fun z => by
        rcases List.mem_append.1 z.1 with y | y
        · exact d y
        · exact c (List.mem_singleton.1 y)), if_neg (fun z => d z.1)]
theorem bl3_end {v : Vw} {n : Nat} {p : Pk} {w : World} {b : Nat} (h : VB w b (bl3 v n p.epoch (slots p.cl))) : VB w b (claimV v n p) := by
  refine h.congr rfl (fun s hs => ?_) (fun _ _ => rfl) rfl
  show (if p.cl s then (if v.own s = 64 ∨ v.own s = n ∨ v.ep (v.own s) < p.epoch then n else v.own s) else (if v.own s = n then 64 else v.own s)) = (if s ∈ slots p.cl ∧ ((if s < 16384 ∧ v.own s = n then 64 else v.own s) = 64 ∨ (if (if s < 16384 ∧ v.own s = n then 64 else v.own s) = n then p.epoch else v.ep (if s < 16384 ∧ v.own s = n then 64 else v.own s)) < p.epoch) then n else (if s < 16384 ∧ v.own s = n then 64 else v.own s))
  cases hc : p.cl s with
  | false =>
    simp only [Bool.false_eq_true, if_false]
    rw [if_neg (show ¬ (s ∈ slots p.cl ∧ _) from fun z => by have := (slots_mem.1 z.1).2; rw [hc] at this; cases this)]
    by_cases c : v.own s = n
    · rw [if_pos c, if_pos ⟨hs, c⟩]
    · rw [if_neg c, if_neg (fun z => c z.2)]
  | true =>
    have hm : s ∈ slots p.cl := slots_mem.2 ⟨hs, hc⟩
    simp only [if_true]
    by_cases c : v.own s = n
    · rw [if_pos (.inr (.inl c)), if_pos (show s < 16384 ∧ v.own s = n from ⟨hs, c⟩), if_pos ⟨hm, .inl rfl⟩]
    · rw [if_neg (show ¬ (s < 16384 ∧ v.own s = n) from fun z => c z.2), if_neg c]
      by_cases d : v.own s = 64 ∨ v.ep (v.own s) < p.epoch
      · rw [if_pos (by rcases d with d | d; exact .inl d; exact .inr (.inr d)), if_pos ⟨hm, d⟩]
      · rw [if_neg (fun z => by rcases z with z | z | z; exact d (.inl z); exact c z; exact d (.inr z)), if_neg (fun z => d z.2)]

end Go.Proofs.Ytdicjnkbmlamgab

namespace Go.Proofs.Ytdicjnkbmlamgab
open Go.RowKit Go.Shelf

theorem rows_round {P : Program} {l n : Nat} {row : String} {args : Array Value} {w : World} {R : Value → World → Prop} (h : Rows P row args w R) : RowsIn (Fence.wide.inRound l) n P row args w R := fun c cs _ => by
  obtain ⟨v, w', r, s⟩ := h c cs
  exact ⟨v, w', r, stepsIn_wide.2 s⟩
theorem calls_round {P : Program} {l n : Nat} {f : FuncId} {args : Array Value} {w : World} {R : Ending → World → Prop} (h : Calls P f args w R) : CallsIn (Fence.wide.inRound l) n P f args w R := CallsIn.inRound l (callsIn_wide.2 h)
theorem oper_round {P : Program} {l n : Nat} {o : Oper} {a : Act} {w : World} {K : Act → World → Prop} {Q : Exit → Act → World → Prop} (hd : ∀ c, o.op ≠ .defer c) (h : o.wp P a w K Q) : o.wpIn (Fence.wide.inRound l) n P a w K Q := by
  refine ⟨fun _ _ => trivial, ?_⟩
  show o.uponIn _ n P a K Q ((o.semAt (some l) a.eval).run P w)
  rw [Oper.semAt_some l a.eval o hd]
  unfold Oper.wp at h
  generalize (execOp a.eval o).run P w = r at *
  cases r with
  | ok x w' =>
    cases x <;> simp only [Oper.upon, Oper.uponIn] at h ⊢ <;>
      first
        | exact h
        | exact ⟨fun c => (by cases c), calls_round h⟩
        | exact ⟨fun c => (by cases c), rows_round h⟩
  | halt x w' => cases x <;> simp only [Oper.upon, Oper.uponIn] at h ⊢ <;> exact h
def noDefer (o : Oper) : Bool := match o.op with
  | .defer _ => false
  | _ => true
theorem noDefer_spec {o : Oper} (h : noDefer o = true) (c) : o.op ≠ .defer c := fun e => by
  unfold noDefer at h
  rw [e] at h
  cases h
theorem wpOp_round {P : Program} {l n : Nat} {ops : Array Oper} {i : Nat} {a : Act} {w : World} {K : Act → World → Prop} {Q : Exit → Act → World → Prop} (hq : ¬ LetsOut Q) (hd : ops.all noDefer = true) (h : wpOp P ops Q i K a w) : wpOpIn (Fence.wide.inRound l) n P ops Q i K a w := by
  unfold wpOp at h
  unfold wpOpIn
  cases ho : ops[i]? with
  | none => rw [ho] at h; exact h
  | some o =>
    simp only [ho] at h ⊢
    have hdo : noDefer o = true := by
      rw [Array.all_eq_true_iff_forall_mem] at hd
      exact hd o (Array.mem_of_getElem? ho)
    by_cases hw : Region.wanted o (yielded ops a.tmps) = true
    · simp only [hw, if_true] at h ⊢
      rcases h with h | ⟨-, h⟩
      · exact oper_round (noDefer_spec hdo) h
      · exact absurd h hq
    · simp only [hw] at h ⊢
      exact ⟨fun _ _ => trivial, h⟩
theorem wpAny_round {P : Program} {l n : Nat} {md : Region.Mode} {ops : Array Oper} {Q : Exit → Act → World → Prop} (hq : ¬ LetsOut Q) (hd : ops.all noDefer = true) : ∀ (fuel : Nat) (listed : Array Bool) (a : Act) (w : World), wpAny P md ops Q fuel listed a w → wpAnyIn (Fence.wide.inRound l) n P md ops Q fuel listed a w
  | 0, _, _, _, h => h
  | fuel + 1, _, _, _, h => ⟨h.1, fun i hi => wpOpIn_mono (fun a w h => wpAny_round hq hd fuel _ a w h) (wpOp_round hq hd (h.2 i hi))⟩
/-- a region in a round, begun as wp_region_held_drew begins -/
theorem region_round {P : Program} {l n : Nat} {id : Nat} {ops : Array Oper} {Q : Exit → Act → World → Prop} {a : Act} {w : World} {S : World → Prop} (hm : P.follows .mixedOrders = true) (hq : ¬ LetsOut Q) (hd : ops.all noDefer = true) (hS : S w.drew)
    (h : S w.drew → wpAnyH P .any ops Q S ops.size (Array.replicate ops.size false) a w.drew) : (Code.region id ops true).wpIn (Fence.wide.inRound l) n P Q a w :=
  wpIn_region_any hm (wpAny_round hq hd _ _ _ _ (wpAny_of_held _ _ _ _ (h hS)))

end Go.Proofs.Ytdicjnkbmlamgab
