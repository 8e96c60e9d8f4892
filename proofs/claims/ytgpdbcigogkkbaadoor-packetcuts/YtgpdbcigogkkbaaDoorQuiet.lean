/- A region that draws its order, whose operations read and whose calls leave what lay there as it was: one walk, in the text's order. -/
import Derived.Test.YtgpdbcigogkkbaaDoorPrint
import Derived.Test.YtgpdbcigogkkbaaDoorBase
import Derived.Deep.QuietTactic
import Derived.Lib.QuietBelow
namespace Go.Proofs.YtgpdbcigogkkbaaDoor
open Go.RowKit
open Slot

theorem quiet_load {P : Program} {ops : Array Oper} {C : World → Prop} {rest : List Oper} {o : Oper} {a : Act} {Q : Act → Prop} (hw : Region.wanted o (yielded ops a.tmps) = true) (ty : TypeId) (x : Operand) (ho : o.op = .load ty x)
    (g : Nat) (hx : a.eval x = .pointer (some ⟨g, 0, none⟩)) (t : TypeId) (cs : Array Value) (fr : Nat × Nat) (d : TypeDesc) (hg : ∀ w, C w → w.heap[g]? = some (.cells cs t fr))
    (hu : P.underlying ty = some d) (hd : (match d with | .struct _ | .array _ _ => true | _ => false) = true) (hi : (P.info? ty).map (·.size) = some cs.size)
    (h : wpQuiet P ops C Q rest (a.put o.dst (.agg cs))) : wpQuiet P ops C Q (o :: rest) a := by
  unfold wpQuiet
  rw [if_pos hw]
  refine ⟨.agg cs, fun w hC => ?_, h⟩
  unfold Oper.quietAt execOp
  simp only [ho, hx, Instr.loadAt, Instr.sureAddr, Sem.run_bind, Sem.run_pure, Result.andThen_ok, run_loadVar_row w g t ty cs fr d (hg w hC) hu hd hi]
  exact ⟨rfl, rfl⟩

theorem grown_box {w w' : World} {b : Nat} {S : Nat → Bool} (h : Box w b S) (hc : ∃ p : Regrown, w' = Sort.grow (redrawn w p.d) p.os) : w'.heap[b]? = some (.cells (cellsOf S) 24 (0, 0)) := by
  obtain ⟨p, rfl⟩ := hc
  exact h.below (below_regrown w p.d p.os) h.lt

end Go.Proofs.YtgpdbcigogkkbaaDoor
