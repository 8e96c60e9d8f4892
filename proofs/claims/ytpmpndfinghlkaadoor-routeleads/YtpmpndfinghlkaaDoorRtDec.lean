/- The program's Decide: where a command belongs. -/
import Derived.Test.YtpmpndfinghlkaaDoorRtMark
import Derived.Test.YtpmpndfinghlkaaDoorRtScope
import Derived.Test.YtpmpndfinghlkaaDoorRtRef
import Derived.WalkMore
import Derived.Deep.QuietTactic
import Derived.Lib.QuietBelow
import Derived.Deep.RegionHeld
import Derived.BigQuiet
namespace Go.Proofs.YtpmpndfinghlkaaDoor
open Go.RowKit

/-- Decide, on its way: the case, the answer's place, the decision under way -/
structure Dq (w W : World) (CC : Array Value) (k s n t : Int) : Prop where
  box : W.heap[w.heap.size]? = some (.cells CC 25 (0, 0))
  res : W.heap[w.heap.size + 1]? = some (.cells #[.int .i64 0, .int .i64 0, .int .i64 0, .int .i64 0] 28 (0, 0))
  dec : W.heap[w.heap.size + 1 + 1]? = some (.cells #[.int .i64 k, .int .i64 s, .int .i64 n, .int .i64 t] 28 (0, 0))
  bel : Below w.heap.size w W
theorem Dq.set {w W : World} {CC : Array Value} {k s n t : Int} (h : Dq w W CC k s n t) (j : Nat) (v : Value) (k' s' n' t' : Int) (he : (#[.int .i64 k, .int .i64 s, .int .i64 n, .int .i64 t] : Array Value).setIfInBounds j v = #[.int .i64 k', .int .i64 s', .int .i64 n', .int .i64 t']) :
    Dq w (W.setCell ⟨w.heap.size + 1 + 1, j, none⟩ v) CC k' s' n' t' := by
  refine ⟨(Below.heap_setCell _ _ _ _ (by show w.heap.size ≠ w.heap.size + 1 + 1; omega)).trans h.box, (Below.heap_setCell _ _ _ _ (by show w.heap.size + 1 ≠ w.heap.size + 1 + 1; omega)).trans h.res, ?_, Below.setCell h.bel (p := ⟨w.heap.size + 1 + 1, j, none⟩) (by show w.heap.size ≤ w.heap.size + 1 + 1; omega) v⟩
  rw [← he]
  exact heap_setCell_same W (w.heap.size + 1 + 1) j _ _ _ h.dec
theorem Dq.below {w W W' : World} {CC : Array Value} {k s n t : Int} (h : Dq w W CC k s n t) (hb : Below W.heap.size W W') : Dq w W' CC k s n t :=
  ⟨(hb.block _ (Array.getElem?_eq_some_iff.1 h.box).1).trans h.box, (hb.block _ (Array.getElem?_eq_some_iff.1 h.res).1).trans h.res, (hb.block _ (Array.getElem?_eq_some_iff.1 h.dec).1).trans h.dec, h.bel.trans (hb.mono h.bel.size)⟩
theorem below_same {f : FuncId} {args : Array Value} {w : World} {v : Value} (h : Calls Tryd.prog f args w fun e w' => e = .returned v ∧ w' = w) : Calls Tryd.prog f args w fun e w' => e = .returned v ∧ Below w.heap.size w w' :=
  h.mono fun _ _ ⟨h1, h2⟩ => ⟨h1, h2 ▸ Below.refl _ _⟩
theorem Dq.quiet {w W : World} {CC : Array Value} {k s n t : Int} (h : Dq w W CC k s n t) (q : Nat) : Dq w (W.drewN q) CC k s n t := ⟨h.box, h.res, h.dec, ⟨h.bel.os, h.bel.tape, h.bel.output, h.bel.size, h.bel.block⟩⟩
theorem Dq.drew {w W : World} {CC : Array Value} {k s n t : Int} (h : Dq w W CC k s n t) : Dq w W.drew CC k s n t := ⟨h.box, h.res, h.dec, h.bel.drew⟩
theorem Dq.at0 {w W : World} {CC : Array Value} {k s n t : Int} (h : Dq w W CC k s n t) : W.cell? ⟨w.heap.size + 1 + 1, 0, none⟩ = some (.int .i64 k) ∧ W.frozen? ⟨w.heap.size + 1 + 1, 0, none⟩ = false := ⟨cell_of_row _ _ 0 _ _ _ h.dec, by simp [World.frozen?, h.dec]⟩
theorem Dq.at1 {w W : World} {CC : Array Value} {k s n t : Int} (h : Dq w W CC k s n t) : W.cell? ⟨w.heap.size + 1 + 1, 1, none⟩ = some (.int .i64 s) ∧ W.frozen? ⟨w.heap.size + 1 + 1, 1, none⟩ = false := ⟨cell_of_row _ _ 1 _ _ _ h.dec, by simp [World.frozen?, h.dec]⟩
theorem Dq.at2 {w W : World} {CC : Array Value} {k s n t : Int} (h : Dq w W CC k s n t) : W.cell? ⟨w.heap.size + 1 + 1, 2, none⟩ = some (.int .i64 n) ∧ W.frozen? ⟨w.heap.size + 1 + 1, 2, none⟩ = false := ⟨cell_of_row _ _ 2 _ _ _ h.dec, by simp [World.frozen?, h.dec]⟩
theorem Dq.at3 {w W : World} {CC : Array Value} {k s n t : Int} (h : Dq w W CC k s n t) : W.cell? ⟨w.heap.size + 1 + 1, 3, none⟩ = some (.int .i64 t) ∧ W.frozen? ⟨w.heap.size + 1 + 1, 3, none⟩ = false := ⟨cell_of_row _ _ 3 _ _ _ h.dec, by simp [World.frozen?, h.dec]⟩
theorem heap_alloc3_0 (w : World) (a b c : Obj) : (((w.alloc a).alloc b).alloc c).heap[w.heap.size]? = some a := by
  rw [heap_alloc_old _ _ (by simp; omega), heap_alloc2_old]
theorem heap_alloc3_1 (w : World) (a b c : Obj) : (((w.alloc a).alloc b).alloc c).heap[w.heap.size + 1]? = some b := by
  rw [heap_alloc_old _ _ (by simp), heap_alloc2_new]
theorem heap_alloc3_2 (w : World) (a b c : Obj) : (((w.alloc a).alloc b).alloc c).heap[w.heap.size + 1 + 1]? = some c := by
  have h := heap_alloc_new ((w.alloc a).alloc b) c
  simpa using h
theorem read_case {c : CaseV} {a h d : Option Addr} {ca ch cd b : Nat} {W : World} {t : TypeId} {fr : Nat × Nat} (hW : W.heap[b]? = some (.cells (caseCells c a ca h ch d cd) t fr)) :
    W.cell? ⟨b, 0, none⟩ = some (.int .i64 c.self) ∧ W.cell? ⟨b, 1, none⟩ = some (.int .i64 c.owner) ∧ W.cell? ⟨b, 2, none⟩ = some (.int .i64 c.mig) ∧ W.cell? ⟨b, 3, none⟩ = some (.int .i64 c.imp) ∧ W.cell? ⟨b, 4, none⟩ = some (.int .i64 c.token) ∧ W.cell? ⟨b, 5, none⟩ = some (.int .i64 c.asking) ∧ W.cell? ⟨b, 6, none⟩ = some (.slice a c.slots.length ca) ∧ W.cell? ⟨b, 7, none⟩ = some (.slice h c.here.length ch) ∧ W.cell? ⟨b, 8, none⟩ = some (.slice d c.held.length cd) :=
  ⟨cell_of_row W _ 0 _ _ _ hW, cell_of_row W _ 1 _ _ _ hW, cell_of_row W _ 2 _ _ _ hW, cell_of_row W _ 3 _ _ _ hW, cell_of_row W _ 4 _ _ _ hW, cell_of_row W _ 5 _ _ _ hW, cell_of_row W _ 6 _ _ _ hW, cell_of_row W _ 7 _ _ _ hW, cell_of_row W _ 8 _ _ _ hW⟩
theorem decideV_cnt (c : CaseV) (n : Nat) (hn : c.slots.length = n) : decideV c = if n = 0 then ⟨1, 0, 0, 0⟩ else if sameS c.slots (c.slots.getD 0 0) n = false then ⟨5, c.slots.getD 0 0, 0, 0⟩ else
    if c.owner = c.self then (if 0 < cntB c.held n then ⟨4, c.slots.getD 0 0, 0, 0⟩ else if c.mig < 0 ∨ cntB c.here n = n then ⟨1, c.slots.getD 0 0, 0, 0⟩ else if 0 < cntB c.here n then ⟨4, c.slots.getD 0 0, 0, 0⟩ else ⟨3, c.slots.getD 0 0, c.mig, c.token⟩)
    else if 0 ≤ c.imp ∧ 0 < c.asking ∧ c.asking = c.token then (if 0 < cntB c.held n ∨ (1 < n ∧ cntB c.here n < n) then ⟨4, c.slots.getD 0 0, 0, 0⟩ else ⟨1, c.slots.getD 0 0, 0, 0⟩)
    else if c.owner < 0 then ⟨6, c.slots.getD 0 0, 0, 0⟩ else ⟨2, c.slots.getD 0 0, c.owner, 0⟩ := by
  subst hn
  have e1 := cntB_some c.here c.slots.length
  have e2 := cntB_some c.held c.slots.length
  have e3 := cntB_all c.here c.slots.length
  have e4 := cntB_le c.here c.slots.length
  have e5 : cntB c.here c.slots.length < c.slots.length ↔ allB c.here c.slots.length = false := by
    rw [← Bool.not_eq_true, ← e3]; omega
  unfold decideV restV
  simp only [e1, e2, e3, e5]
set_option maxHeartbeats 4000000 in
set_option maxRecDepth 100000 in
theorem decide_any (c : CaseV) (a : Option Addr) (ca : Nat) (h : Option Addr) (ch : Nat) (d : Option Addr) (cd : Nat) (w : World) (hC : CaseR w c a h d) (hm : c.slots.length ≤ 9223372036854775807)
    (hch : c.here.length ≤ ch) (hch2 : ch ≤ 9223372036854775807) (hcd : c.held.length ≤ cd) (hcd2 : cd ≤ 9223372036854775807) :
    Calls Tryd.prog 10 #[.agg (caseCells c a ca h ch d cd)] w (DecP (decideV c) w) := by
  obtain ⟨w1, hw1⟩ : ∃ w1, ((w.alloc (.cells (caseCells c a ca h ch d cd) 25)).alloc (.cells #[.int .i64 0, .int .i64 0, .int .i64 0, .int .i64 0] 28)).alloc (.cells #[.int .i64 0, .int .i64 0, .int .i64 0, .int .i64 0] 28) = w1 := ⟨_, rfl⟩
  have HQ : Hid (Dq w w1 (caseCells c a ca h ch d cd) 0 0 0 0) := by
    rw [← hw1]
    exact ⟨heap_alloc3_0 _ _ _ _, heap_alloc3_1 _ _ _ _, heap_alloc3_2 _ _ _ _, ((below_alloc w _).alloc (by simp) _).alloc (by simp; omega) _⟩
  obtain ⟨n, hn⟩ : ∃ n, c.slots.length = n := ⟨_, rfl⟩
  obtain ⟨k0, k1, k2, k3, k4, k5, k6, k7, k8⟩ := read_case HQ.out.box
  have HM1 := hid fun W hW => below_same (marked_any h c.here c.here.length ch n W rfl hW hch hch2 (by omega))
  have HM2 := hid fun W hW => below_same (marked_any d c.held c.held.length cd n W rfl hW hcd hcd2 (by omega))
  have HC1 := hid (hC.below HQ.out.bel (Nat.le_refl _))
  rw [hn] at k6 hm
  have HN := hid hn
  have HSb : Hid (∀ sb so, a = some ⟨sb, so, none⟩ → 0 < n → sb < w.heap.size) := fun sb so e h0 => by
    obtain ⟨b', o', e', h', -⟩ := hC.slots (fun e0 => by rw [e0] at hn; simp at hn; omega)
    rw [e] at e'
    injection e' with e'
    injection e' with e' _
    omega
  have HDv := hid (decideV_cnt c n hn)
  obtain ⟨e, he⟩ : ∃ e, cntB c.here n = e := ⟨_, rfl⟩
  obtain ⟨b, hb⟩ : ∃ b, cntB c.held n = b := ⟨_, rfl⟩
  rw [he, hb] at HDv
  rw [he] at HM1
  rw [hb] at HM2
  have hen : e ≤ n := by rw [← he]; exact cntB_le _ _
  have hbn : b ≤ n := by rw [← hb]; exact cntB_le _ _
  clear he hb
  obtain ⟨CC, hCC⟩ : ∃ C, caseCells c a ca h ch d cd = C := ⟨_, rfl⟩
  rw [hCC] at HQ hw1 ⊢
  clear hC hch hch2 hcd hcd2 hn
  go_enter Tryd.func10, Tryd.ntmps10
  go_wp2
  refine wp_scope_hid 2 fun J HRet HGo => ?_
  have G0 := hid fun n a w => HGo.out n 0 _ a w rfl
  have G1 := hid fun n a w => HGo.out n 1 _ a w rfl
  have G2 := hid fun n a w => HGo.out n 2 _ a w rfl
  have G3 := hid fun n a w => HGo.out n 3 _ a w rfl
  have G4 := hid fun n a w => HGo.out n 4 _ a w rfl
  have G5 := hid fun n a w => HGo.out n 5 _ a w rfl
  clear HGo
  go_upto_region 2 with fail
  clear hw1
  go_upto_region 3 with fail
  have C1 := hid fun d os => Calls.regrown_of (HM1.out (Sort.grow (redrawn w1 d) os) (HC1.out.here.below (below_regrown w1 d os) (Nat.le_refl _)))
  have C2 := hid fun d os => Calls.regrown_of (HM2.out (Sort.grow (redrawn w1 d) os) (HC1.out.held.below (below_regrown w1 d os) (Nat.le_refl _)))
  have HCC := hid hCC
  have g7 := cell_regrown k7
  have g8 := cell_regrown k8
  clear HM1 HM2 hCC
  refine wp_region_quiet_below (by kernel_rfl) (by kernel_rfl) ?_
  iterate 7 (quiet_step (exact C1.out _ _))
  quiet_step (exact C2.out _ _)
  repeat (quiet_step (fail))
  refine wpQuiet_nil ?_
  intro _ hw'
  obtain ⟨⟨dq, osq⟩, hw''⟩ := hw'
  subst hw''
  have HQ2 := hid (HQ.out.below (below_regrown w1 dq osq))
  have HC2 := hid (HC1.out.below (below_regrown w1 dq osq) (Nat.le_refl _))
  clear HQ HC1 C1 C2 g7 g8 k0 k1 k2 k3 k4 k5 k6 k7 k8
  generalize Sort.grow (redrawn w1 dq) osq = w2 at *
  obtain ⟨k0, k1, k2, k3, k4, k5, k6, -, -⟩ := read_case (HCC.out ▸ HQ2.out.box)
  rw [HN.out] at k6
  by_cases h0 : n = 0
  · subst h0
    go_wp2
    go_step3
    refine G0.out _ _ _ ?_
    go_upto_region 18 with fail
    obtain ⟨q0, q1⟩ := HQ2.out.at0
    have HX := hid (HQ2.out.set 0 (.int .i64 1) 1 0 0 0 rfl)
    go_upto_region 19 with fail
    clear q0 q1
    generalize _root_.Go.World.setCell w2 ⟨w.heap.size + 1 + 1, 0, none⟩ (.int .i64 1) = wk at *
    have HE : Hid (DecP (decideV c) w (.returned (.agg #[.int .i64 1, .int .i64 0, .int .i64 0, .int .i64 0])) (_root_.Go.World.setRow wk (w.heap.size + 1) #[.int .i64 1, .int .i64 0, .int .i64 0, .int .i64 0])) := by
      rw [show decideV c = ⟨1, 0, 0, 0⟩ from by rw [HDv.out, if_pos trivial]]
      exact ⟨rfl, below_setRow HX.out.bel (by omega) _⟩
    have HF : Hid ((_root_.Go.World.setRow wk (w.heap.size + 1) #[.int .i64 1, .int .i64 0, .int .i64 0, .int .i64 0]).heap[w.heap.size + 1]? = some (.cells #[.int .i64 1, .int .i64 0, .int .i64 0, .int .i64 0] 28 (0, 0))) := setRow_heap _ _ _ _ _ _ HX.out.res
    have iD : (Tryd.prog.info? 28).map (·.size) = some (#[.int .i64 1, .int .i64 0, .int .i64 0, .int .i64 0] : Array Value).size := infoDec ⟨1, 0, 0, 0⟩
    have oD : (#[.int .i64 1, .int .i64 0, .int .i64 0, .int .i64 0] : Array Value).all (·.oneCell') = true := by simp [Value.oneCell']
    have zD : (#[.int .i64 0, .int .i64 0, .int .i64 0, .int .i64 0] : Array Value).size = (#[.int .i64 1, .int .i64 0, .int .i64 0, .int .i64 0] : Array Value).size := rfl
    generalize decideV c = DV at *
    clear HDv
    go_wp2_with (first | (refine wpList_load_row rfl 28 _ rfl (w.heap.size + 1 + 1) rfl 28 _ (0, 0) _ HX.out.dec Tryd.underlying28 rfl iD ?_) | (refine wpList_store_row rfl 28 _ _ rfl (w.heap.size + 1) #[.int .i64 1, .int .i64 0, .int .i64 0, .int .i64 0] rfl rfl 28 _ HX.out.res iD zD oD ?_))
    apply HRet.out
    refine bodyPost_ret (v := .agg #[.int .i64 1, .int .i64 0, .int .i64 0, .int .i64 0]) (ret_dec rfl ⟨1, 0, 0, 0⟩ rfl HF.out) rfl ?_
    exact HE.out
  · skip
    have hne : ((n : Int) == 0) = false := beq_eq_false_iff_ne.2 (by omega)
    obtain ⟨sb, so, rfl, -, hsl⟩ := HC2.out.slots (fun e => by have h := HN.out; rw [e] at h; exact h0 h.symm)
    have HAl := hid fun (W : World) hW => alike_any sb so c.slots n ca W HN.out hW (by omega) hm
    have c00 := hsl 0 (by have := HN.out; omega)
    obtain ⟨s0, hs0⟩ : ∃ s, c.slots.getD 0 0 = s := ⟨_, rfl⟩
    rw [show c.slots[0]'(by have := HN.out; omega) = s0 by rw [← hs0, List.getD_eq_getElem?_getD, List.getElem?_eq_getElem (by have := HN.out; omega)]; rfl, Nat.add_zero] at c00
    rw [hs0] at HAl HDv
    have HSl := hid hsl
    have hpos : (0 : Int) < (n : Int) := by omega
    obtain ⟨q0, q1⟩ := HQ2.out.at1
    have HQ3 := hid (HQ2.out.set 1 (.int .i64 s0) 0 s0 0 0 rfl)
    have HSl3 : Hid (∀ j (h : j < c.slots.length), (_root_.Go.World.setCell w2 ⟨w.heap.size + 1 + 1, 1, none⟩ (.int .i64 s0)).cell? ⟨sb, so + j, none⟩ = some (.int .i64 c.slots[j])) := fun j h => by
      rw [World.cell?_setCell_far _ _ _ _ (by show w.heap.size + 1 + 1 ≠ sb; have := HSb.out sb so rfl (by omega); omega)]
      exact HSl.out j h
    go_upto_region 6 with fail
    clear q0 q1 c00 hne hsl hs0 HQ2 HSl k0 k1 k2 k3 k4 k5 k6
    generalize _root_.Go.World.setCell w2 ⟨w.heap.size + 1 + 1, 1, none⟩ (.int .i64 s0) = w3 at *
    obtain ⟨k0, k1, k2, k3, k4, k5, k6, -, -⟩ := read_case (HCC.out ▸ HQ3.out.box)
    rw [HN.out] at k6
    go_wp2_with fail
    refine (HAl.out w3 HSl3.out).mono ?_; rintro e w4 ⟨rfl, rfl⟩
    cases hs : sameS c.slots s0 n
    · skip
      go_wp2
      go_step3
      refine G1.out _ _ _ ?_
      go_upto_region 22 with fail
      obtain ⟨q0, q1⟩ := HQ3.out.at0
      have HX := hid (HQ3.out.set 0 (.int .i64 5) 5 s0 0 0 rfl)
      go_upto_region 23 with fail
      clear q0 q1
      generalize _root_.Go.World.setCell w4 ⟨w.heap.size + 1 + 1, 0, none⟩ (.int .i64 5) = wk at *
      have HE : Hid (DecP (decideV c) w (.returned (.agg #[.int .i64 5, .int .i64 s0, .int .i64 0, .int .i64 0])) (_root_.Go.World.setRow wk (w.heap.size + 1) #[.int .i64 5, .int .i64 s0, .int .i64 0, .int .i64 0])) := by
        rw [show decideV c = ⟨5, s0, 0, 0⟩ from by rw [HDv.out, if_neg h0, if_pos hs]]
        exact ⟨rfl, below_setRow HX.out.bel (by omega) _⟩
      have HF : Hid ((_root_.Go.World.setRow wk (w.heap.size + 1) #[.int .i64 5, .int .i64 s0, .int .i64 0, .int .i64 0]).heap[w.heap.size + 1]? = some (.cells #[.int .i64 5, .int .i64 s0, .int .i64 0, .int .i64 0] 28 (0, 0))) := setRow_heap _ _ _ _ _ _ HX.out.res
      have iD : (Tryd.prog.info? 28).map (·.size) = some (#[.int .i64 5, .int .i64 s0, .int .i64 0, .int .i64 0] : Array Value).size := infoDec ⟨5, s0, 0, 0⟩
      have oD : (#[.int .i64 5, .int .i64 s0, .int .i64 0, .int .i64 0] : Array Value).all (·.oneCell') = true := by simp [Value.oneCell']
      have zD : (#[.int .i64 0, .int .i64 0, .int .i64 0, .int .i64 0] : Array Value).size = (#[.int .i64 5, .int .i64 s0, .int .i64 0, .int .i64 0] : Array Value).size := rfl
      generalize decideV c = DV at *
      clear HDv
      go_wp2_with (first | (refine wpList_load_row rfl 28 _ rfl (w.heap.size + 1 + 1) rfl 28 _ (0, 0) _ HX.out.dec Tryd.underlying28 rfl iD ?_) | (refine wpList_store_row rfl 28 _ _ rfl (w.heap.size + 1) #[.int .i64 5, .int .i64 s0, .int .i64 0, .int .i64 0] rfl rfl 28 _ HX.out.res iD zD oD ?_))
      apply HRet.out
      refine bodyPost_ret (v := .agg #[.int .i64 5, .int .i64 s0, .int .i64 0, .int .i64 0]) (ret_dec rfl ⟨5, s0, 0, 0⟩ rfl HF.out) rfl ?_
      exact HE.out
    · skip
      rw [if_neg h0, if_neg (by rw [hs]; simp)] at HDv
      clear HAl HSl3 hs
      obtain ⟨ow, how⟩ : ∃ x, c.owner = x := ⟨_, rfl⟩
      obtain ⟨se, hse⟩ : ∃ x, c.self = x := ⟨_, rfl⟩
      obtain ⟨mg, hmg⟩ : ∃ x, c.mig = x := ⟨_, rfl⟩
      obtain ⟨im, him⟩ : ∃ x, c.imp = x := ⟨_, rfl⟩
      obtain ⟨tk, htk⟩ : ∃ x, c.token = x := ⟨_, rfl⟩
      obtain ⟨ak, hak⟩ : ∃ x, c.asking = x := ⟨_, rfl⟩
      rw [how, hse, hmg, him, htk, hak] at HDv
      rw [hse] at k0
      rw [how] at k1
      rw [hmg] at k2
      rw [him] at k3
      rw [htk] at k4
      rw [hak] at k5
      clear how hse hmg him htk hak
      by_cases h1 : ow = se
      · subst h1
        rw [if_pos rfl] at HDv
        go_wp2
        go_step3
        refine G2.out _ _ _ ?_
        by_cases h2 : 0 < b
        · have h2z : (0 : Int) < (b : Int) := by omega
          go_wp2
          go_step3
          refine G5.out _ _ _ ?_
          go_upto_region 20 with fail
          obtain ⟨q0, q1⟩ := HQ3.out.at0
          have HX := hid (HQ3.out.set 0 (.int .i64 4) 4 s0 0 0 rfl)
          go_upto_region 21 with fail
          clear q0 q1
          generalize _root_.Go.World.setCell w4 ⟨w.heap.size + 1 + 1, 0, none⟩ (.int .i64 4) = wk at *
          have HE : Hid (DecP (decideV c) w (.returned (.agg #[.int .i64 4, .int .i64 s0, .int .i64 0, .int .i64 0])) (_root_.Go.World.setRow wk (w.heap.size + 1) #[.int .i64 4, .int .i64 s0, .int .i64 0, .int .i64 0])) := by
            rw [show decideV c = ⟨4, s0, 0, 0⟩ from by rw [HDv.out, if_pos h2]]
            exact ⟨rfl, below_setRow HX.out.bel (by omega) _⟩
          have HF : Hid ((_root_.Go.World.setRow wk (w.heap.size + 1) #[.int .i64 4, .int .i64 s0, .int .i64 0, .int .i64 0]).heap[w.heap.size + 1]? = some (.cells #[.int .i64 4, .int .i64 s0, .int .i64 0, .int .i64 0] 28 (0, 0))) := setRow_heap _ _ _ _ _ _ HX.out.res
          have iD : (Tryd.prog.info? 28).map (·.size) = some (#[.int .i64 4, .int .i64 s0, .int .i64 0, .int .i64 0] : Array Value).size := infoDec ⟨4, s0, 0, 0⟩
          have oD : (#[.int .i64 4, .int .i64 s0, .int .i64 0, .int .i64 0] : Array Value).all (·.oneCell') = true := by simp [Value.oneCell']
          have zD : (#[.int .i64 0, .int .i64 0, .int .i64 0, .int .i64 0] : Array Value).size = (#[.int .i64 4, .int .i64 s0, .int .i64 0, .int .i64 0] : Array Value).size := rfl
          generalize decideV c = DV at *
          clear HDv
          go_wp2_with (first | (refine wpList_load_row rfl 28 _ rfl (w.heap.size + 1 + 1) rfl 28 _ (0, 0) _ HX.out.dec Tryd.underlying28 rfl iD ?_) | (refine wpList_store_row rfl 28 _ _ rfl (w.heap.size + 1) #[.int .i64 4, .int .i64 s0, .int .i64 0, .int .i64 0] rfl rfl 28 _ HX.out.res iD zD oD ?_))
          apply HRet.out
          refine bodyPost_ret (v := .agg #[.int .i64 4, .int .i64 s0, .int .i64 0, .int .i64 0]) (ret_dec rfl ⟨4, s0, 0, 0⟩ rfl HF.out) rfl ?_
          exact HE.out
        · have h2z : ¬ (0 : Int) < (b : Int) := by omega
          rw [if_neg h2] at HDv
          by_cases h3 : mg < 0
          · go_wp2
            go_step3
            refine G0.out _ _ _ ?_
            go_upto_region 18 with fail
            obtain ⟨q0, q1⟩ := HQ3.out.at0
            have HX := hid (HQ3.out.set 0 (.int .i64 1) 1 s0 0 0 rfl)
            go_upto_region 19 with fail
            clear q0 q1
            generalize _root_.Go.World.setCell w4 ⟨w.heap.size + 1 + 1, 0, none⟩ (.int .i64 1) = wk at *
            have HE : Hid (DecP (decideV c) w (.returned (.agg #[.int .i64 1, .int .i64 s0, .int .i64 0, .int .i64 0])) (_root_.Go.World.setRow wk (w.heap.size + 1) #[.int .i64 1, .int .i64 s0, .int .i64 0, .int .i64 0])) := by
              rw [show decideV c = ⟨1, s0, 0, 0⟩ from by rw [HDv.out, if_pos (Or.inl h3)]]
              exact ⟨rfl, below_setRow HX.out.bel (by omega) _⟩
            have HF : Hid ((_root_.Go.World.setRow wk (w.heap.size + 1) #[.int .i64 1, .int .i64 s0, .int .i64 0, .int .i64 0]).heap[w.heap.size + 1]? = some (.cells #[.int .i64 1, .int .i64 s0, .int .i64 0, .int .i64 0] 28 (0, 0))) := setRow_heap _ _ _ _ _ _ HX.out.res
            have iD : (Tryd.prog.info? 28).map (·.size) = some (#[.int .i64 1, .int .i64 s0, .int .i64 0, .int .i64 0] : Array Value).size := infoDec ⟨1, s0, 0, 0⟩
            have oD : (#[.int .i64 1, .int .i64 s0, .int .i64 0, .int .i64 0] : Array Value).all (·.oneCell') = true := by simp [Value.oneCell']
            have zD : (#[.int .i64 0, .int .i64 0, .int .i64 0, .int .i64 0] : Array Value).size = (#[.int .i64 1, .int .i64 s0, .int .i64 0, .int .i64 0] : Array Value).size := rfl
            generalize decideV c = DV at *
            clear HDv
            go_wp2_with (first | (refine wpList_load_row rfl 28 _ rfl (w.heap.size + 1 + 1) rfl 28 _ (0, 0) _ HX.out.dec Tryd.underlying28 rfl iD ?_) | (refine wpList_store_row rfl 28 _ _ rfl (w.heap.size + 1) #[.int .i64 1, .int .i64 s0, .int .i64 0, .int .i64 0] rfl rfl 28 _ HX.out.res iD zD oD ?_))
            apply HRet.out
            refine bodyPost_ret (v := .agg #[.int .i64 1, .int .i64 s0, .int .i64 0, .int .i64 0]) (ret_dec rfl ⟨1, s0, 0, 0⟩ rfl HF.out) rfl ?_
            exact HE.out
          · by_cases h4 : e = n
            · have h4z : ((e : Int) == (n : Int)) = true := by rw [h4]; exact beq_self_eq_true _
              go_wp2
              go_step3
              refine G0.out _ _ _ ?_
              go_upto_region 18 with fail
              obtain ⟨q0, q1⟩ := HQ3.out.at0
              have HX := hid (HQ3.out.set 0 (.int .i64 1) 1 s0 0 0 rfl)
              go_upto_region 19 with fail
              clear q0 q1
              generalize _root_.Go.World.setCell w4 ⟨w.heap.size + 1 + 1, 0, none⟩ (.int .i64 1) = wk at *
              have HE : Hid (DecP (decideV c) w (.returned (.agg #[.int .i64 1, .int .i64 s0, .int .i64 0, .int .i64 0])) (_root_.Go.World.setRow wk (w.heap.size + 1) #[.int .i64 1, .int .i64 s0, .int .i64 0, .int .i64 0])) := by
                rw [show decideV c = ⟨1, s0, 0, 0⟩ from by rw [HDv.out, if_pos (Or.inr h4)]]
                exact ⟨rfl, below_setRow HX.out.bel (by omega) _⟩
              have HF : Hid ((_root_.Go.World.setRow wk (w.heap.size + 1) #[.int .i64 1, .int .i64 s0, .int .i64 0, .int .i64 0]).heap[w.heap.size + 1]? = some (.cells #[.int .i64 1, .int .i64 s0, .int .i64 0, .int .i64 0] 28 (0, 0))) := setRow_heap _ _ _ _ _ _ HX.out.res
              have iD : (Tryd.prog.info? 28).map (·.size) = some (#[.int .i64 1, .int .i64 s0, .int .i64 0, .int .i64 0] : Array Value).size := infoDec ⟨1, s0, 0, 0⟩
              have oD : (#[.int .i64 1, .int .i64 s0, .int .i64 0, .int .i64 0] : Array Value).all (·.oneCell') = true := by simp [Value.oneCell']
              have zD : (#[.int .i64 0, .int .i64 0, .int .i64 0, .int .i64 0] : Array Value).size = (#[.int .i64 1, .int .i64 s0, .int .i64 0, .int .i64 0] : Array Value).size := rfl
              generalize decideV c = DV at *
              clear HDv
              go_wp2_with (first | (refine wpList_load_row rfl 28 _ rfl (w.heap.size + 1 + 1) rfl 28 _ (0, 0) _ HX.out.dec Tryd.underlying28 rfl iD ?_) | (refine wpList_store_row rfl 28 _ _ rfl (w.heap.size + 1) #[.int .i64 1, .int .i64 s0, .int .i64 0, .int .i64 0] rfl rfl 28 _ HX.out.res iD zD oD ?_))
              apply HRet.out
              refine bodyPost_ret (v := .agg #[.int .i64 1, .int .i64 s0, .int .i64 0, .int .i64 0]) (ret_dec rfl ⟨1, s0, 0, 0⟩ rfl HF.out) rfl ?_
              exact HE.out
            · have h4z : ((e : Int) == (n : Int)) = false := beq_eq_false_iff_ne.2 (by omega)
              rw [if_neg (fun h => h.elim h3 h4)] at HDv
              by_cases h5 : 0 < e
              · have h5z : (0 : Int) < (e : Int) := by omega
                go_wp2
                go_step3
                refine G5.out _ _ _ ?_
                go_upto_region 20 with fail
                obtain ⟨q0, q1⟩ := HQ3.out.at0
                have HX := hid (HQ3.out.set 0 (.int .i64 4) 4 s0 0 0 rfl)
                go_upto_region 21 with fail
                clear q0 q1
                generalize _root_.Go.World.setCell w4 ⟨w.heap.size + 1 + 1, 0, none⟩ (.int .i64 4) = wk at *
                have HE : Hid (DecP (decideV c) w (.returned (.agg #[.int .i64 4, .int .i64 s0, .int .i64 0, .int .i64 0])) (_root_.Go.World.setRow wk (w.heap.size + 1) #[.int .i64 4, .int .i64 s0, .int .i64 0, .int .i64 0])) := by
                  rw [show decideV c = ⟨4, s0, 0, 0⟩ from by rw [HDv.out, if_pos h5]]
                  exact ⟨rfl, below_setRow HX.out.bel (by omega) _⟩
                have HF : Hid ((_root_.Go.World.setRow wk (w.heap.size + 1) #[.int .i64 4, .int .i64 s0, .int .i64 0, .int .i64 0]).heap[w.heap.size + 1]? = some (.cells #[.int .i64 4, .int .i64 s0, .int .i64 0, .int .i64 0] 28 (0, 0))) := setRow_heap _ _ _ _ _ _ HX.out.res
                have iD : (Tryd.prog.info? 28).map (·.size) = some (#[.int .i64 4, .int .i64 s0, .int .i64 0, .int .i64 0] : Array Value).size := infoDec ⟨4, s0, 0, 0⟩
                have oD : (#[.int .i64 4, .int .i64 s0, .int .i64 0, .int .i64 0] : Array Value).all (·.oneCell') = true := by simp [Value.oneCell']
                have zD : (#[.int .i64 0, .int .i64 0, .int .i64 0, .int .i64 0] : Array Value).size = (#[.int .i64 4, .int .i64 s0, .int .i64 0, .int .i64 0] : Array Value).size := rfl
                generalize decideV c = DV at *
                clear HDv
                go_wp2_with (first | (refine wpList_load_row rfl 28 _ rfl (w.heap.size + 1 + 1) rfl 28 _ (0, 0) _ HX.out.dec Tryd.underlying28 rfl iD ?_) | (refine wpList_store_row rfl 28 _ _ rfl (w.heap.size + 1) #[.int .i64 4, .int .i64 s0, .int .i64 0, .int .i64 0] rfl rfl 28 _ HX.out.res iD zD oD ?_))
                apply HRet.out
                refine bodyPost_ret (v := .agg #[.int .i64 4, .int .i64 s0, .int .i64 0, .int .i64 0]) (ret_dec rfl ⟨4, s0, 0, 0⟩ rfl HF.out) rfl ?_
                exact HE.out
              · have h5z : ¬ (0 : Int) < (e : Int) := by omega
                rw [if_neg h5] at HDv
                go_upto_region 15 with fail
                obtain ⟨q0, q1⟩ := HQ3.out.at0
                obtain ⟨q2, q3⟩ := HQ3.out.at2
                obtain ⟨q4, q5⟩ := HQ3.out.at3
                have HX := hid ((((HQ3.out.set 0 (.int .i64 3) 3 s0 0 0 rfl).set 2 (.int .i64 mg) 3 s0 mg 0 rfl).set 3 (.int .i64 tk) 3 s0 mg tk rfl).drew)
                go_region
                clear q0 q1 q2 q3 q4 q5
                generalize _root_.Go.World.drew (_root_.Go.World.setCell (_root_.Go.World.setCell (_root_.Go.World.setCell w4 ⟨w.heap.size + 1 + 1, 0, none⟩ (.int .i64 3)) ⟨w.heap.size + 1 + 1, 2, none⟩ (.int .i64 mg)) ⟨w.heap.size + 1 + 1, 3, none⟩ (.int .i64 tk)) = wk at *
                have HE : Hid (DecP (decideV c) w (.returned (.agg #[.int .i64 3, .int .i64 s0, .int .i64 mg, .int .i64 tk])) (_root_.Go.World.setRow wk (w.heap.size + 1) #[.int .i64 3, .int .i64 s0, .int .i64 mg, .int .i64 tk])) := by
                  rw [show decideV c = ⟨3, s0, mg, tk⟩ from by rw [HDv.out]]
                  exact ⟨rfl, below_setRow HX.out.bel (by omega) _⟩
                have HF : Hid ((_root_.Go.World.setRow wk (w.heap.size + 1) #[.int .i64 3, .int .i64 s0, .int .i64 mg, .int .i64 tk]).heap[w.heap.size + 1]? = some (.cells #[.int .i64 3, .int .i64 s0, .int .i64 mg, .int .i64 tk] 28 (0, 0))) := setRow_heap _ _ _ _ _ _ HX.out.res
                have iD : (Tryd.prog.info? 28).map (·.size) = some (#[.int .i64 3, .int .i64 s0, .int .i64 mg, .int .i64 tk] : Array Value).size := infoDec ⟨3, s0, mg, tk⟩
                have oD : (#[.int .i64 3, .int .i64 s0, .int .i64 mg, .int .i64 tk] : Array Value).all (·.oneCell') = true := by simp [Value.oneCell']
                have zD : (#[.int .i64 0, .int .i64 0, .int .i64 0, .int .i64 0] : Array Value).size = (#[.int .i64 3, .int .i64 s0, .int .i64 mg, .int .i64 tk] : Array Value).size := rfl
                generalize decideV c = DV at *
                clear HDv
                go_wp2_with (first | (refine wpList_load_row rfl 28 _ rfl (w.heap.size + 1 + 1) rfl 28 _ (0, 0) _ HX.out.dec Tryd.underlying28 rfl iD ?_) | (refine wpList_store_row rfl 28 _ _ rfl (w.heap.size + 1) #[.int .i64 3, .int .i64 s0, .int .i64 mg, .int .i64 tk] rfl rfl 28 _ HX.out.res iD zD oD ?_))
                apply HRet.out
                refine bodyPost_ret (v := .agg #[.int .i64 3, .int .i64 s0, .int .i64 mg, .int .i64 tk]) (ret_dec rfl ⟨3, s0, mg, tk⟩ rfl HF.out) rfl ?_
                exact HE.out
      · have h1z : (ow == se) = false := beq_eq_false_iff_ne.2 h1
        rw [if_neg h1] at HDv
        by_cases i1 : 0 ≤ im
        · by_cases i2 : 0 < ak
          · by_cases i3 : ak = tk
            · have i3z : (ak == tk) = true := by rw [i3]; exact beq_self_eq_true _
              rw [if_pos ⟨i1, i2, i3⟩] at HDv
              go_wp2
              go_step3
              refine G3.out _ _ _ ?_
              by_cases h2 : 0 < b
              · have h2z : (0 : Int) < (b : Int) := by omega
                rw [if_pos (Or.inl h2)] at HDv
                go_wp2
                go_step3
                refine G5.out _ _ _ ?_
                go_upto_region 20 with fail
                obtain ⟨q0, q1⟩ := HQ3.out.at0
                have HX := hid (HQ3.out.set 0 (.int .i64 4) 4 s0 0 0 rfl)
                go_upto_region 21 with fail
                clear q0 q1
                generalize _root_.Go.World.setCell w4 ⟨w.heap.size + 1 + 1, 0, none⟩ (.int .i64 4) = wk at *
                have HE : Hid (DecP (decideV c) w (.returned (.agg #[.int .i64 4, .int .i64 s0, .int .i64 0, .int .i64 0])) (_root_.Go.World.setRow wk (w.heap.size + 1) #[.int .i64 4, .int .i64 s0, .int .i64 0, .int .i64 0])) := by
                  rw [show decideV c = ⟨4, s0, 0, 0⟩ from by rw [HDv.out]]
                  exact ⟨rfl, below_setRow HX.out.bel (by omega) _⟩
                have HF : Hid ((_root_.Go.World.setRow wk (w.heap.size + 1) #[.int .i64 4, .int .i64 s0, .int .i64 0, .int .i64 0]).heap[w.heap.size + 1]? = some (.cells #[.int .i64 4, .int .i64 s0, .int .i64 0, .int .i64 0] 28 (0, 0))) := setRow_heap _ _ _ _ _ _ HX.out.res
                have iD : (Tryd.prog.info? 28).map (·.size) = some (#[.int .i64 4, .int .i64 s0, .int .i64 0, .int .i64 0] : Array Value).size := infoDec ⟨4, s0, 0, 0⟩
                have oD : (#[.int .i64 4, .int .i64 s0, .int .i64 0, .int .i64 0] : Array Value).all (·.oneCell') = true := by simp [Value.oneCell']
                have zD : (#[.int .i64 0, .int .i64 0, .int .i64 0, .int .i64 0] : Array Value).size = (#[.int .i64 4, .int .i64 s0, .int .i64 0, .int .i64 0] : Array Value).size := rfl
                generalize decideV c = DV at *
                clear HDv
                go_wp2_with (first | (refine wpList_load_row rfl 28 _ rfl (w.heap.size + 1 + 1) rfl 28 _ (0, 0) _ HX.out.dec Tryd.underlying28 rfl iD ?_) | (refine wpList_store_row rfl 28 _ _ rfl (w.heap.size + 1) #[.int .i64 4, .int .i64 s0, .int .i64 0, .int .i64 0] rfl rfl 28 _ HX.out.res iD zD oD ?_))
                apply HRet.out
                refine bodyPost_ret (v := .agg #[.int .i64 4, .int .i64 s0, .int .i64 0, .int .i64 0]) (ret_dec rfl ⟨4, s0, 0, 0⟩ rfl HF.out) rfl ?_
                exact HE.out
              · have h2z : ¬ (0 : Int) < (b : Int) := by omega
                by_cases h6 : 1 < n
                · have h6z : (1 : Int) < (n : Int) := by omega
                  by_cases h7 : e < n
                  · have h7z : (e : Int) < (n : Int) := by omega
                    rw [if_pos (Or.inr ⟨h6, h7⟩)] at HDv
                    go_wp2
                    go_step3
                    refine G5.out _ _ _ ?_
                    go_upto_region 20 with fail
                    obtain ⟨q0, q1⟩ := HQ3.out.at0
                    have HX := hid (HQ3.out.set 0 (.int .i64 4) 4 s0 0 0 rfl)
                    go_upto_region 21 with fail
                    clear q0 q1
                    generalize _root_.Go.World.setCell w4 ⟨w.heap.size + 1 + 1, 0, none⟩ (.int .i64 4) = wk at *
                    have HE : Hid (DecP (decideV c) w (.returned (.agg #[.int .i64 4, .int .i64 s0, .int .i64 0, .int .i64 0])) (_root_.Go.World.setRow wk (w.heap.size + 1) #[.int .i64 4, .int .i64 s0, .int .i64 0, .int .i64 0])) := by
                      rw [show decideV c = ⟨4, s0, 0, 0⟩ from by rw [HDv.out]]
                      exact ⟨rfl, below_setRow HX.out.bel (by omega) _⟩
                    have HF : Hid ((_root_.Go.World.setRow wk (w.heap.size + 1) #[.int .i64 4, .int .i64 s0, .int .i64 0, .int .i64 0]).heap[w.heap.size + 1]? = some (.cells #[.int .i64 4, .int .i64 s0, .int .i64 0, .int .i64 0] 28 (0, 0))) := setRow_heap _ _ _ _ _ _ HX.out.res
                    have iD : (Tryd.prog.info? 28).map (·.size) = some (#[.int .i64 4, .int .i64 s0, .int .i64 0, .int .i64 0] : Array Value).size := infoDec ⟨4, s0, 0, 0⟩
                    have oD : (#[.int .i64 4, .int .i64 s0, .int .i64 0, .int .i64 0] : Array Value).all (·.oneCell') = true := by simp [Value.oneCell']
                    have zD : (#[.int .i64 0, .int .i64 0, .int .i64 0, .int .i64 0] : Array Value).size = (#[.int .i64 4, .int .i64 s0, .int .i64 0, .int .i64 0] : Array Value).size := rfl
                    generalize decideV c = DV at *
                    clear HDv
                    go_wp2_with (first | (refine wpList_load_row rfl 28 _ rfl (w.heap.size + 1 + 1) rfl 28 _ (0, 0) _ HX.out.dec Tryd.underlying28 rfl iD ?_) | (refine wpList_store_row rfl 28 _ _ rfl (w.heap.size + 1) #[.int .i64 4, .int .i64 s0, .int .i64 0, .int .i64 0] rfl rfl 28 _ HX.out.res iD zD oD ?_))
                    apply HRet.out
                    refine bodyPost_ret (v := .agg #[.int .i64 4, .int .i64 s0, .int .i64 0, .int .i64 0]) (ret_dec rfl ⟨4, s0, 0, 0⟩ rfl HF.out) rfl ?_
                    exact HE.out
                  · have h7z : ¬ (e : Int) < (n : Int) := by omega
                    rw [if_neg (fun h => h.elim h2 (fun h => h7 h.2))] at HDv
                    go_wp2
                    go_step3
                    go_upto_region 18 with fail
                    obtain ⟨q0, q1⟩ := HQ3.out.at0
                    have HX := hid (HQ3.out.set 0 (.int .i64 1) 1 s0 0 0 rfl)
                    go_upto_region 19 with fail
                    clear q0 q1
                    generalize _root_.Go.World.setCell w4 ⟨w.heap.size + 1 + 1, 0, none⟩ (.int .i64 1) = wk at *
                    have HE : Hid (DecP (decideV c) w (.returned (.agg #[.int .i64 1, .int .i64 s0, .int .i64 0, .int .i64 0])) (_root_.Go.World.setRow wk (w.heap.size + 1) #[.int .i64 1, .int .i64 s0, .int .i64 0, .int .i64 0])) := by
                      rw [show decideV c = ⟨1, s0, 0, 0⟩ from by rw [HDv.out]]
                      exact ⟨rfl, below_setRow HX.out.bel (by omega) _⟩
                    have HF : Hid ((_root_.Go.World.setRow wk (w.heap.size + 1) #[.int .i64 1, .int .i64 s0, .int .i64 0, .int .i64 0]).heap[w.heap.size + 1]? = some (.cells #[.int .i64 1, .int .i64 s0, .int .i64 0, .int .i64 0] 28 (0, 0))) := setRow_heap _ _ _ _ _ _ HX.out.res
                    have iD : (Tryd.prog.info? 28).map (·.size) = some (#[.int .i64 1, .int .i64 s0, .int .i64 0, .int .i64 0] : Array Value).size := infoDec ⟨1, s0, 0, 0⟩
                    have oD : (#[.int .i64 1, .int .i64 s0, .int .i64 0, .int .i64 0] : Array Value).all (·.oneCell') = true := by simp [Value.oneCell']
                    have zD : (#[.int .i64 0, .int .i64 0, .int .i64 0, .int .i64 0] : Array Value).size = (#[.int .i64 1, .int .i64 s0, .int .i64 0, .int .i64 0] : Array Value).size := rfl
                    generalize decideV c = DV at *
                    clear HDv
                    go_wp2_with (first | (refine wpList_load_row rfl 28 _ rfl (w.heap.size + 1 + 1) rfl 28 _ (0, 0) _ HX.out.dec Tryd.underlying28 rfl iD ?_) | (refine wpList_store_row rfl 28 _ _ rfl (w.heap.size + 1) #[.int .i64 1, .int .i64 s0, .int .i64 0, .int .i64 0] rfl rfl 28 _ HX.out.res iD zD oD ?_))
                    apply HRet.out
                    refine bodyPost_ret (v := .agg #[.int .i64 1, .int .i64 s0, .int .i64 0, .int .i64 0]) (ret_dec rfl ⟨1, s0, 0, 0⟩ rfl HF.out) rfl ?_
                    exact HE.out
                · have h6z : ¬ (1 : Int) < (n : Int) := by omega
                  rw [if_neg (fun h => h.elim h2 (fun h => h6 h.1))] at HDv
                  go_wp2
                  go_step3
                  go_upto_region 18 with fail
                  obtain ⟨q0, q1⟩ := HQ3.out.at0
                  have HX := hid (HQ3.out.set 0 (.int .i64 1) 1 s0 0 0 rfl)
                  go_upto_region 19 with fail
                  clear q0 q1
                  generalize _root_.Go.World.setCell w4 ⟨w.heap.size + 1 + 1, 0, none⟩ (.int .i64 1) = wk at *
                  have HE : Hid (DecP (decideV c) w (.returned (.agg #[.int .i64 1, .int .i64 s0, .int .i64 0, .int .i64 0])) (_root_.Go.World.setRow wk (w.heap.size + 1) #[.int .i64 1, .int .i64 s0, .int .i64 0, .int .i64 0])) := by
                    rw [show decideV c = ⟨1, s0, 0, 0⟩ from by rw [HDv.out]]
                    exact ⟨rfl, below_setRow HX.out.bel (by omega) _⟩
                  have HF : Hid ((_root_.Go.World.setRow wk (w.heap.size + 1) #[.int .i64 1, .int .i64 s0, .int .i64 0, .int .i64 0]).heap[w.heap.size + 1]? = some (.cells #[.int .i64 1, .int .i64 s0, .int .i64 0, .int .i64 0] 28 (0, 0))) := setRow_heap _ _ _ _ _ _ HX.out.res
                  have iD : (Tryd.prog.info? 28).map (·.size) = some (#[.int .i64 1, .int .i64 s0, .int .i64 0, .int .i64 0] : Array Value).size := infoDec ⟨1, s0, 0, 0⟩
                  have oD : (#[.int .i64 1, .int .i64 s0, .int .i64 0, .int .i64 0] : Array Value).all (·.oneCell') = true := by simp [Value.oneCell']
                  have zD : (#[.int .i64 0, .int .i64 0, .int .i64 0, .int .i64 0] : Array Value).size = (#[.int .i64 1, .int .i64 s0, .int .i64 0, .int .i64 0] : Array Value).size := rfl
                  generalize decideV c = DV at *
                  clear HDv
                  go_wp2_with (first | (refine wpList_load_row rfl 28 _ rfl (w.heap.size + 1 + 1) rfl 28 _ (0, 0) _ HX.out.dec Tryd.underlying28 rfl iD ?_) | (refine wpList_store_row rfl 28 _ _ rfl (w.heap.size + 1) #[.int .i64 1, .int .i64 s0, .int .i64 0, .int .i64 0] rfl rfl 28 _ HX.out.res iD zD oD ?_))
                  apply HRet.out
                  refine bodyPost_ret (v := .agg #[.int .i64 1, .int .i64 s0, .int .i64 0, .int .i64 0]) (ret_dec rfl ⟨1, s0, 0, 0⟩ rfl HF.out) rfl ?_
                  exact HE.out
            · have i3z : (ak == tk) = false := beq_eq_false_iff_ne.2 i3
              rw [if_neg (fun h => i3 h.2.2)] at HDv
              by_cases h5 : ow < 0
              · rw [if_pos h5] at HDv
                go_wp2
                go_step3
                refine G4.out _ _ _ ?_
                go_upto_region 24 with fail
                obtain ⟨q0, q1⟩ := HQ3.out.at0
                have HX := hid (HQ3.out.set 0 (.int .i64 6) 6 s0 0 0 rfl)
                go_upto_region 25 with fail
                clear q0 q1
                generalize _root_.Go.World.setCell w4 ⟨w.heap.size + 1 + 1, 0, none⟩ (.int .i64 6) = wk at *
                have HE : Hid (DecP (decideV c) w (.returned (.agg #[.int .i64 6, .int .i64 s0, .int .i64 0, .int .i64 0])) (_root_.Go.World.setRow wk (w.heap.size + 1) #[.int .i64 6, .int .i64 s0, .int .i64 0, .int .i64 0])) := by
                  rw [show decideV c = ⟨6, s0, 0, 0⟩ from by rw [HDv.out]]
                  exact ⟨rfl, below_setRow HX.out.bel (by omega) _⟩
                have HF : Hid ((_root_.Go.World.setRow wk (w.heap.size + 1) #[.int .i64 6, .int .i64 s0, .int .i64 0, .int .i64 0]).heap[w.heap.size + 1]? = some (.cells #[.int .i64 6, .int .i64 s0, .int .i64 0, .int .i64 0] 28 (0, 0))) := setRow_heap _ _ _ _ _ _ HX.out.res
                have iD : (Tryd.prog.info? 28).map (·.size) = some (#[.int .i64 6, .int .i64 s0, .int .i64 0, .int .i64 0] : Array Value).size := infoDec ⟨6, s0, 0, 0⟩
                have oD : (#[.int .i64 6, .int .i64 s0, .int .i64 0, .int .i64 0] : Array Value).all (·.oneCell') = true := by simp [Value.oneCell']
                have zD : (#[.int .i64 0, .int .i64 0, .int .i64 0, .int .i64 0] : Array Value).size = (#[.int .i64 6, .int .i64 s0, .int .i64 0, .int .i64 0] : Array Value).size := rfl
                generalize decideV c = DV at *
                clear HDv
                go_wp2_with (first | (refine wpList_load_row rfl 28 _ rfl (w.heap.size + 1 + 1) rfl 28 _ (0, 0) _ HX.out.dec Tryd.underlying28 rfl iD ?_) | (refine wpList_store_row rfl 28 _ _ rfl (w.heap.size + 1) #[.int .i64 6, .int .i64 s0, .int .i64 0, .int .i64 0] rfl rfl 28 _ HX.out.res iD zD oD ?_))
                apply HRet.out
                refine bodyPost_ret (v := .agg #[.int .i64 6, .int .i64 s0, .int .i64 0, .int .i64 0]) (ret_dec rfl ⟨6, s0, 0, 0⟩ rfl HF.out) rfl ?_
                exact HE.out
              · rw [if_neg h5] at HDv
                go_upto_region 10 with fail
                obtain ⟨q0, q1⟩ := HQ3.out.at0
                obtain ⟨q2, q3⟩ := HQ3.out.at2
                have HX := hid (((HQ3.out.set 0 (.int .i64 2) 2 s0 0 0 rfl).set 2 (.int .i64 ow) 2 s0 ow 0 rfl).drew)
                go_region
                clear q0 q1 q2 q3
                generalize _root_.Go.World.drew (_root_.Go.World.setCell (_root_.Go.World.setCell w4 ⟨w.heap.size + 1 + 1, 0, none⟩ (.int .i64 2)) ⟨w.heap.size + 1 + 1, 2, none⟩ (.int .i64 ow)) = wk at *
                have HE : Hid (DecP (decideV c) w (.returned (.agg #[.int .i64 2, .int .i64 s0, .int .i64 ow, .int .i64 0])) (_root_.Go.World.setRow wk (w.heap.size + 1) #[.int .i64 2, .int .i64 s0, .int .i64 ow, .int .i64 0])) := by
                  rw [show decideV c = ⟨2, s0, ow, 0⟩ from by rw [HDv.out]]
                  exact ⟨rfl, below_setRow HX.out.bel (by omega) _⟩
                have HF : Hid ((_root_.Go.World.setRow wk (w.heap.size + 1) #[.int .i64 2, .int .i64 s0, .int .i64 ow, .int .i64 0]).heap[w.heap.size + 1]? = some (.cells #[.int .i64 2, .int .i64 s0, .int .i64 ow, .int .i64 0] 28 (0, 0))) := setRow_heap _ _ _ _ _ _ HX.out.res
                have iD : (Tryd.prog.info? 28).map (·.size) = some (#[.int .i64 2, .int .i64 s0, .int .i64 ow, .int .i64 0] : Array Value).size := infoDec ⟨2, s0, ow, 0⟩
                have oD : (#[.int .i64 2, .int .i64 s0, .int .i64 ow, .int .i64 0] : Array Value).all (·.oneCell') = true := by simp [Value.oneCell']
                have zD : (#[.int .i64 0, .int .i64 0, .int .i64 0, .int .i64 0] : Array Value).size = (#[.int .i64 2, .int .i64 s0, .int .i64 ow, .int .i64 0] : Array Value).size := rfl
                generalize decideV c = DV at *
                clear HDv
                go_wp2_with (first | (refine wpList_load_row rfl 28 _ rfl (w.heap.size + 1 + 1) rfl 28 _ (0, 0) _ HX.out.dec Tryd.underlying28 rfl iD ?_) | (refine wpList_store_row rfl 28 _ _ rfl (w.heap.size + 1) #[.int .i64 2, .int .i64 s0, .int .i64 ow, .int .i64 0] rfl rfl 28 _ HX.out.res iD zD oD ?_))
                apply HRet.out
                refine bodyPost_ret (v := .agg #[.int .i64 2, .int .i64 s0, .int .i64 ow, .int .i64 0]) (ret_dec rfl ⟨2, s0, ow, 0⟩ rfl HF.out) rfl ?_
                exact HE.out
          · have i2z : ¬ 0 < ak := i2
            rw [if_neg (fun h => i2 h.2.1)] at HDv
            by_cases h5 : ow < 0
            · rw [if_pos h5] at HDv
              go_wp2
              go_step3
              refine G4.out _ _ _ ?_
              go_upto_region 24 with fail
              obtain ⟨q0, q1⟩ := HQ3.out.at0
              have HX := hid (HQ3.out.set 0 (.int .i64 6) 6 s0 0 0 rfl)
              go_upto_region 25 with fail
              clear q0 q1
              generalize _root_.Go.World.setCell w4 ⟨w.heap.size + 1 + 1, 0, none⟩ (.int .i64 6) = wk at *
              have HE : Hid (DecP (decideV c) w (.returned (.agg #[.int .i64 6, .int .i64 s0, .int .i64 0, .int .i64 0])) (_root_.Go.World.setRow wk (w.heap.size + 1) #[.int .i64 6, .int .i64 s0, .int .i64 0, .int .i64 0])) := by
                rw [show decideV c = ⟨6, s0, 0, 0⟩ from by rw [HDv.out]]
                exact ⟨rfl, below_setRow HX.out.bel (by omega) _⟩
              have HF : Hid ((_root_.Go.World.setRow wk (w.heap.size + 1) #[.int .i64 6, .int .i64 s0, .int .i64 0, .int .i64 0]).heap[w.heap.size + 1]? = some (.cells #[.int .i64 6, .int .i64 s0, .int .i64 0, .int .i64 0] 28 (0, 0))) := setRow_heap _ _ _ _ _ _ HX.out.res
              have iD : (Tryd.prog.info? 28).map (·.size) = some (#[.int .i64 6, .int .i64 s0, .int .i64 0, .int .i64 0] : Array Value).size := infoDec ⟨6, s0, 0, 0⟩
              have oD : (#[.int .i64 6, .int .i64 s0, .int .i64 0, .int .i64 0] : Array Value).all (·.oneCell') = true := by simp [Value.oneCell']
              have zD : (#[.int .i64 0, .int .i64 0, .int .i64 0, .int .i64 0] : Array Value).size = (#[.int .i64 6, .int .i64 s0, .int .i64 0, .int .i64 0] : Array Value).size := rfl
              generalize decideV c = DV at *
              clear HDv
              go_wp2_with (first | (refine wpList_load_row rfl 28 _ rfl (w.heap.size + 1 + 1) rfl 28 _ (0, 0) _ HX.out.dec Tryd.underlying28 rfl iD ?_) | (refine wpList_store_row rfl 28 _ _ rfl (w.heap.size + 1) #[.int .i64 6, .int .i64 s0, .int .i64 0, .int .i64 0] rfl rfl 28 _ HX.out.res iD zD oD ?_))
              apply HRet.out
              refine bodyPost_ret (v := .agg #[.int .i64 6, .int .i64 s0, .int .i64 0, .int .i64 0]) (ret_dec rfl ⟨6, s0, 0, 0⟩ rfl HF.out) rfl ?_
              exact HE.out
            · rw [if_neg h5] at HDv
              go_upto_region 10 with fail
              obtain ⟨q0, q1⟩ := HQ3.out.at0
              obtain ⟨q2, q3⟩ := HQ3.out.at2
              have HX := hid (((HQ3.out.set 0 (.int .i64 2) 2 s0 0 0 rfl).set 2 (.int .i64 ow) 2 s0 ow 0 rfl).drew)
              go_region
              clear q0 q1 q2 q3
              generalize _root_.Go.World.drew (_root_.Go.World.setCell (_root_.Go.World.setCell w4 ⟨w.heap.size + 1 + 1, 0, none⟩ (.int .i64 2)) ⟨w.heap.size + 1 + 1, 2, none⟩ (.int .i64 ow)) = wk at *
              have HE : Hid (DecP (decideV c) w (.returned (.agg #[.int .i64 2, .int .i64 s0, .int .i64 ow, .int .i64 0])) (_root_.Go.World.setRow wk (w.heap.size + 1) #[.int .i64 2, .int .i64 s0, .int .i64 ow, .int .i64 0])) := by
                rw [show decideV c = ⟨2, s0, ow, 0⟩ from by rw [HDv.out]]
                exact ⟨rfl, below_setRow HX.out.bel (by omega) _⟩
              have HF : Hid ((_root_.Go.World.setRow wk (w.heap.size + 1) #[.int .i64 2, .int .i64 s0, .int .i64 ow, .int .i64 0]).heap[w.heap.size + 1]? = some (.cells #[.int .i64 2, .int .i64 s0, .int .i64 ow, .int .i64 0] 28 (0, 0))) := setRow_heap _ _ _ _ _ _ HX.out.res
              have iD : (Tryd.prog.info? 28).map (·.size) = some (#[.int .i64 2, .int .i64 s0, .int .i64 ow, .int .i64 0] : Array Value).size := infoDec ⟨2, s0, ow, 0⟩
              have oD : (#[.int .i64 2, .int .i64 s0, .int .i64 ow, .int .i64 0] : Array Value).all (·.oneCell') = true := by simp [Value.oneCell']
              have zD : (#[.int .i64 0, .int .i64 0, .int .i64 0, .int .i64 0] : Array Value).size = (#[.int .i64 2, .int .i64 s0, .int .i64 ow, .int .i64 0] : Array Value).size := rfl
              generalize decideV c = DV at *
              clear HDv
              go_wp2_with (first | (refine wpList_load_row rfl 28 _ rfl (w.heap.size + 1 + 1) rfl 28 _ (0, 0) _ HX.out.dec Tryd.underlying28 rfl iD ?_) | (refine wpList_store_row rfl 28 _ _ rfl (w.heap.size + 1) #[.int .i64 2, .int .i64 s0, .int .i64 ow, .int .i64 0] rfl rfl 28 _ HX.out.res iD zD oD ?_))
              apply HRet.out
              refine bodyPost_ret (v := .agg #[.int .i64 2, .int .i64 s0, .int .i64 ow, .int .i64 0]) (ret_dec rfl ⟨2, s0, ow, 0⟩ rfl HF.out) rfl ?_
              exact HE.out
        · have i1z : ¬ 0 ≤ im := i1
          rw [if_neg (fun h => i1 h.1)] at HDv
          by_cases h5 : ow < 0
          · rw [if_pos h5] at HDv
            go_wp2
            go_step3
            refine G4.out _ _ _ ?_
            go_upto_region 24 with fail
            obtain ⟨q0, q1⟩ := HQ3.out.at0
            have HX := hid (HQ3.out.set 0 (.int .i64 6) 6 s0 0 0 rfl)
            go_upto_region 25 with fail
            clear q0 q1
            generalize _root_.Go.World.setCell w4 ⟨w.heap.size + 1 + 1, 0, none⟩ (.int .i64 6) = wk at *
            have HE : Hid (DecP (decideV c) w (.returned (.agg #[.int .i64 6, .int .i64 s0, .int .i64 0, .int .i64 0])) (_root_.Go.World.setRow wk (w.heap.size + 1) #[.int .i64 6, .int .i64 s0, .int .i64 0, .int .i64 0])) := by
              rw [show decideV c = ⟨6, s0, 0, 0⟩ from by rw [HDv.out]]
              exact ⟨rfl, below_setRow HX.out.bel (by omega) _⟩
            have HF : Hid ((_root_.Go.World.setRow wk (w.heap.size + 1) #[.int .i64 6, .int .i64 s0, .int .i64 0, .int .i64 0]).heap[w.heap.size + 1]? = some (.cells #[.int .i64 6, .int .i64 s0, .int .i64 0, .int .i64 0] 28 (0, 0))) := setRow_heap _ _ _ _ _ _ HX.out.res
            have iD : (Tryd.prog.info? 28).map (·.size) = some (#[.int .i64 6, .int .i64 s0, .int .i64 0, .int .i64 0] : Array Value).size := infoDec ⟨6, s0, 0, 0⟩
            have oD : (#[.int .i64 6, .int .i64 s0, .int .i64 0, .int .i64 0] : Array Value).all (·.oneCell') = true := by simp [Value.oneCell']
            have zD : (#[.int .i64 0, .int .i64 0, .int .i64 0, .int .i64 0] : Array Value).size = (#[.int .i64 6, .int .i64 s0, .int .i64 0, .int .i64 0] : Array Value).size := rfl
            generalize decideV c = DV at *
            clear HDv
            go_wp2_with (first | (refine wpList_load_row rfl 28 _ rfl (w.heap.size + 1 + 1) rfl 28 _ (0, 0) _ HX.out.dec Tryd.underlying28 rfl iD ?_) | (refine wpList_store_row rfl 28 _ _ rfl (w.heap.size + 1) #[.int .i64 6, .int .i64 s0, .int .i64 0, .int .i64 0] rfl rfl 28 _ HX.out.res iD zD oD ?_))
            apply HRet.out
            refine bodyPost_ret (v := .agg #[.int .i64 6, .int .i64 s0, .int .i64 0, .int .i64 0]) (ret_dec rfl ⟨6, s0, 0, 0⟩ rfl HF.out) rfl ?_
            exact HE.out
          · rw [if_neg h5] at HDv
            go_upto_region 10 with fail
            obtain ⟨q0, q1⟩ := HQ3.out.at0
            obtain ⟨q2, q3⟩ := HQ3.out.at2
            have HX := hid (((HQ3.out.set 0 (.int .i64 2) 2 s0 0 0 rfl).set 2 (.int .i64 ow) 2 s0 ow 0 rfl).drew)
            go_region
            clear q0 q1 q2 q3
            generalize _root_.Go.World.drew (_root_.Go.World.setCell (_root_.Go.World.setCell w4 ⟨w.heap.size + 1 + 1, 0, none⟩ (.int .i64 2)) ⟨w.heap.size + 1 + 1, 2, none⟩ (.int .i64 ow)) = wk at *
            have HE : Hid (DecP (decideV c) w (.returned (.agg #[.int .i64 2, .int .i64 s0, .int .i64 ow, .int .i64 0])) (_root_.Go.World.setRow wk (w.heap.size + 1) #[.int .i64 2, .int .i64 s0, .int .i64 ow, .int .i64 0])) := by
              rw [show decideV c = ⟨2, s0, ow, 0⟩ from by rw [HDv.out]]
              exact ⟨rfl, below_setRow HX.out.bel (by omega) _⟩
            have HF : Hid ((_root_.Go.World.setRow wk (w.heap.size + 1) #[.int .i64 2, .int .i64 s0, .int .i64 ow, .int .i64 0]).heap[w.heap.size + 1]? = some (.cells #[.int .i64 2, .int .i64 s0, .int .i64 ow, .int .i64 0] 28 (0, 0))) := setRow_heap _ _ _ _ _ _ HX.out.res
            have iD : (Tryd.prog.info? 28).map (·.size) = some (#[.int .i64 2, .int .i64 s0, .int .i64 ow, .int .i64 0] : Array Value).size := infoDec ⟨2, s0, ow, 0⟩
            have oD : (#[.int .i64 2, .int .i64 s0, .int .i64 ow, .int .i64 0] : Array Value).all (·.oneCell') = true := by simp [Value.oneCell']
            have zD : (#[.int .i64 0, .int .i64 0, .int .i64 0, .int .i64 0] : Array Value).size = (#[.int .i64 2, .int .i64 s0, .int .i64 ow, .int .i64 0] : Array Value).size := rfl
            generalize decideV c = DV at *
            clear HDv
            go_wp2_with (first | (refine wpList_load_row rfl 28 _ rfl (w.heap.size + 1 + 1) rfl 28 _ (0, 0) _ HX.out.dec Tryd.underlying28 rfl iD ?_) | (refine wpList_store_row rfl 28 _ _ rfl (w.heap.size + 1) #[.int .i64 2, .int .i64 s0, .int .i64 ow, .int .i64 0] rfl rfl 28 _ HX.out.res iD zD oD ?_))
            apply HRet.out
            refine bodyPost_ret (v := .agg #[.int .i64 2, .int .i64 s0, .int .i64 ow, .int .i64 0]) (ret_dec rfl ⟨2, s0, ow, 0⟩ rfl HF.out) rfl ?_
            exact HE.out

end Go.Proofs.YtpmpndfinghlkaaDoor
