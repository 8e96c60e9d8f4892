/- The law RouteDecides: of any case the decision is the document's. -/
import Derived.Test.YtpmpndfinghlkaaDoorRtAlive
import Derived.Test.YtpmpndfinghlkaaDoorRtRead
import Derived.Deep.QuietTactic
import Derived.Lib.QuietBelow
namespace Go.Proofs.YtpmpndfinghlkaaDoor
open Go.RowKit

theorem quiet_load {P : Program} {ops : Array Oper} {C : World → Prop} {rest : List Oper} {o : Oper} {a : Act} {Q : Act → Prop} (hw : Region.wanted o (yielded ops a.tmps) = true) (ty : TypeId) (x : Operand) (ho : o.op = .load ty x)
    (g : Nat) (hx : a.eval x = .pointer (some ⟨g, 0, none⟩)) (t : TypeId) (cs : Array Value) (fr : Nat × Nat) (d : TypeDesc) (hg : ∀ w, C w → w.heap[g]? = some (.cells cs t fr))
    (hu : P.underlying ty = some d) (hd : (match d with | .struct _ | .array _ _ => true | _ => false) = true) (hi : (P.info? ty).map (·.size) = some cs.size)
    (h : wpQuiet P ops C Q rest (a.put o.dst (.agg cs))) : wpQuiet P ops C Q (o :: rest) a := by
  unfold wpQuiet
  rw [if_pos hw]
  refine ⟨.agg cs, fun w hC => ?_, h⟩
  unfold Oper.quietAt execOp
  simp only [ho, hx, Instr.loadAt, Instr.sureAddr, Sem.run_bind, Sem.run_pure, Result.andThen_ok, run_loadVar_row w g t ty cs fr d (hg w hC) hu hd hi]
  exact ⟨rfl, rfl⟩
theorem grown_block {w w' : World} {b : Nat} {o : Obj} (h : w.heap[b]? = some o) (hc : ∃ p : Regrown, w' = Sort.grow (redrawn w p.d) p.os) : w'.heap[b]? = some o := by
  obtain ⟨p, rfl⟩ := hc
  exact ((below_regrown w p.d p.os).block b (Array.getElem?_eq_some_iff.1 h).1).trans h
/-- the sizes of a case's rows -/
structure CaseN (c : CaseV) (ca ch cd : Nat) : Prop where
  slots : c.slots.length ≤ ca
  here : c.here.length ≤ ch
  held : c.held.length ≤ cd
  ca : ca ≤ 9223372036854775807
  ch : ch ≤ 9223372036854775807
  cd : cd ≤ 9223372036854775807
theorem infoCase (c : CaseV) (a : Option Addr) (ca : Nat) (h : Option Addr) (ch : Nat) (d : Option Addr) (cd : Nat) : (Tryd.prog.info? 25).map (·.size) = some (caseCells c a ca h ch d cd).size := by show _ = some 9; kernel_rfl
theorem decide_all (c : CaseV) {a h d : Option Addr} {ca ch cd : Nat} (w : World) (hC : CaseR w c a h d) (hN : CaseN c ca ch cd) : Calls Tryd.prog 10 #[.agg (caseCells c a ca h ch d cd)] w fun e w' => e = .returned (.agg (decCells (decideV c))) ∧ Below w.heap.size w w' :=
  decide_any c a ca h ch d cd w hC (Nat.le_trans hN.slots hN.ca) hN.here hN.ch hN.held hN.cd
theorem rdecide_all (c : CaseV) {a h d : Option Addr} {ca ch cd : Nat} (w : World) (hC : CaseR w c a h d) (hN : CaseN c ca ch cd) : Calls Tryd.prog 11 #[.agg (caseCells c a ca h ch d cd)] w fun e w' => e = .returned (.agg (decCells (decideV c))) ∧ Below w.heap.size w w' :=
  rdecide_any c a ca h ch d cd w hC (Nat.le_trans hN.slots hN.ca)
set_option maxHeartbeats 4000000 in
set_option maxRecDepth 100000 in
theorem decides_any (c : CaseV) (a : Option Addr) (ca : Nat) (h : Option Addr) (ch : Nat) (d : Option Addr) (cd : Nat) (w : World) (hE : Env w) (hC : CaseR w c a h d) (hN : CaseN c ca ch cd) :
    Calls Tryd.prog 3 #[.agg (caseCells c a ca h ch d cd)] w fun e w' => e = .returned (.bool true) ∧ Below w.heap.size w w' := by
  obtain ⟨w1, hw1⟩ : ∃ w1, w.alloc (.cells (caseCells c a ca h ch d cd) 25) = w1 := ⟨_, rfl⟩
  have hB1 : Below w.heap.size w w1 := by rw [← hw1]; exact below_alloc _ _
  have HB1 := hid hB1
  have HX : Hid (w1.heap[w.heap.size]? = some (.cells (caseCells c a ca h ch d cd) 25 (0, 0))) := by unfold Hid; rw [← hw1]; exact heap_alloc_new _ _
  have hC1 := hC.below hB1 (Nat.le_refl _)
  have C1 := hid fun d os => Calls.regrown_of (alive_any (Sort.grow (redrawn w1 d) os) (hE.below (hB1.trans ((below_regrown w1 d os).mono hB1.size)) hE.room))
  have C2 := hid fun d os => Calls.regrown_of (decide_all c (Sort.grow (redrawn w1 d) os) (hC1.below (below_regrown w1 d os) (Nat.le_refl _)) hN)
  have C3 := hid fun d os => Calls.regrown_of (rdecide_all c (Sort.grow (redrawn w1 d) os) (hC1.below (below_regrown w1 d os) (Nat.le_refl _)) hN)
  have heq := eq_dec_same (decideV c)
  have hi := infoCase c a ca h ch d cd
  generalize decCells (decideV c) = D at *
  generalize caseCells c a ca h ch d cd = CC at *
  have HI := hid hi
  clear hC1 hC hN hE hB1 hi
  go_enter Tryd.func3, Tryd.ntmps3
  go_upto_region 1 with fail
  clear hw1
  refine wp_region_quiet_below (by kernel_rfl) (by kernel_rfl) ?_
  iterate 2 (quiet_step (exact C1.out _ _))
  refine quiet_load rfl 25 _ rfl w.heap.size rfl 25 _ (0, 0) _ (fun W hc => grown_block HX.out hc) Tryd.underlying25 rfl HI.out ?_
  quiet_step (exact C2.out _ _)
  refine quiet_load rfl 25 _ rfl w.heap.size rfl 25 _ (0, 0) _ (fun W hc => grown_block HX.out hc) Tryd.underlying25 rfl HI.out ?_
  quiet_step (exact C3.out _ _)
  repeat (quiet_step (fail))
  refine wpQuiet_nil ?_
  intro _ hw'
  obtain ⟨⟨dq, osq⟩, hw''⟩ := hw'
  subst hw''
  go_wp2
  go_ret
  exact ⟨rfl, HB1.out.trans ((below_regrown w1 dq osq).mono HB1.out.size)⟩

end Go.Proofs.YtpmpndfinghlkaaDoor
