/- Operations of the law's does. -/
import Derived.Test.YtjcfbnhmljlkpaaLkC
namespace Go.Proofs.Ytjcfbnhmljlkpaa
open Go.RowKit

theorem wp_append_runs {P : Program} {o : Oper} {a : Act} {w : World} {K : Act → World → Prop} {Q : Exit → Act → World → Prop} (s x : Operand) (t u : TypeId)
    (ho : o.op = .call { callee := .builtin .append, args := #[s, x], argTypes := #[t, u] }) (v y v' : Value) (w' : World) (hs : a.eval s = v) (hx : a.eval x = y)
    (hrun : (Builtin.append_ #[t, u] o.type #[v, y]).run P w = .ok v' w') (h : K (a.put o.dst v') w') : o.wp P a w K Q := by
  unfold Oper.wp execOp
  simp only [ho, resolve, invoke, builtin, Sem.run_bind, Sem.run_pure, Result.andThen_ok, List.map_toArray, List.map_cons, List.map_nil, hs, hx, hrun]
  exact h
theorem run_bslice0 (w : World) : (Instr.buildSlice 27 0 #[]).run Try.prog w = .ok (.slice (some ⟨w.heap.size, 0, none⟩) 0 0) (w.alloc (.cells #[] 56)) := by
  have u1 := run_underlying Try.underlying27 w
  have u2 := Try.sizeOf56
  have e : (Array.map (fun (_ : Nat) => (default : Value)) (Array.range 0)) = #[] := by
    apply Array.ext
    · simp
    · intro i h1; simp at h1
  simp [Instr.buildSlice, u1, u2, Instr.fill, newRow, e]
theorem wp_bslice0 {o : Oper} {a : Act} {w : World} {K : Act → World → Prop} {Q : Exit → Act → World → Prop} (ho : o.op = .buildSlice 27 0 #[])
    (h : K (a.put o.dst (.slice (some ⟨w.heap.size, 0, none⟩) 0 0)) (w.alloc (.cells #[] 56))) : o.wp Try.prog a w K Q := by
  unfold Oper.wp execOp
  simp only [ho, List.map_toArray, List.map_nil, Sem.run_bind, run_bslice0 w, Result.andThen_ok]
  exact h
theorem own_empty (w : World) (B : Nat) (hB : B ≤ w.heap.size) : OwnW B (w.alloc (.cells #[] 56)) (.slice (some ⟨w.heap.size, 0, none⟩) 0 0) [] :=
  World.ownsRow_lit w #[] 0 hB (Nat.zero_le _) rfl
def placesW : Array (Nat × Nat) := #[(0, 1), (1, 1), (2, 13)]
abbrev zeroW : Array Value := #[.int .i64 0, .int .i64 0, .int .i64 0, .int .i64 0, .int .i64 0, .int .i64 0, .string ⟨#[]⟩, .string ⟨#[]⟩, .slice none 0 0, .int .i64 0, .int .i64 0, .string ⟨#[]⟩, .slice none 0 0, .bool false, .int .i64 0]
theorem builtW_any (parts : List (Nat × Value)) : Try.prog.built 56 parts = Instr.fill (fun i => placesW[i]?) zeroW parts := by kernel_rfl
set_option maxHeartbeats 1000000 in
theorem built_w (f t : Int) (x : Lt) (ap : Option Addr) (ac : Nat) (rp : Option Addr) (rc : Nat) : Try.prog.built 56 [(0, .int .i64 f), (1, .int .i64 t), (2, .agg (ltC x ap ac rp rc))] = some (Wm.cells ⟨⟨f, t, x⟩, ap, ac, rp, rc⟩) := by
  rw [builtW_any]
  obtain ⟨x0, x1, x2, x3, x4, x5, x6, x7, x8, x9⟩ := x
  simp [Instr.fill, placesW, zeroW, ltC, Wm.cells, Value.cells]
theorem build_w (f t : Int) (x : Lt) (ap : Option Addr) (ac : Nat) (rp : Option Addr) (rc : Nat) (w : World) : (Instr.build 56 #[(0, .int .i64 f), (1, .int .i64 t), (2, .agg (ltC x ap ac rp rc))]).run Try.prog w = .ok (.agg (Wm.cells ⟨⟨f, t, x⟩, ap, ac, rp, rc⟩)) w :=
  run_build w _ _ _ (built_w f t x ap ac rp rc)
theorem exec_build_w {op : Oper} {a : Act} (x y z : Operand) (ho : op.op = .build 56 #[(0, x), (1, y), (2, z)]) (w : World) (f t : Int) (l : Lt) (ap : Option Addr) (ac : Nat) (rp : Option Addr) (rc : Nat) (hx : a.eval x = .int .i64 f) (hy : a.eval y = .int .i64 t) (hz : a.eval z = .agg (ltC l ap ac rp rc)) : (execOp a.eval op).run Try.prog w = .ok (.value (.agg (Wm.cells ⟨⟨f, t, l⟩, ap, ac, rp, rc⟩))) w := by
  unfold execOp
  simp only [ho, List.map_toArray, List.map_cons, List.map_nil, hx, hy, hz, Sem.run_bind, build_w, Result.andThen_ok, Sem.run_pure]
theorem exec_load_mid {op : Oper} {a : Act} (x : Operand) (ho : op.op = .load 33 x) (w : World) (b o : Nat) (hx : a.eval x = .pointer (some ⟨b, o, none⟩)) (C : Array Value) (hC : C.size = 13) (h : w.rangeAt b o C.toList) : (execOp a.eval op).run Try.prog w = .ok (.value (.agg C)) w := by
  unfold execOp
  simp only [ho, hx, Instr.loadAt, Instr.sureAddr, Sem.run_bind, Sem.run_pure, Result.andThen_ok, run_loadVar_mid w b o 33 C.toList _ h Try.underlying33 rfl (by rw [Array.length_toList, hC]; kernel_rfl)]
theorem op_range {W : World} {b : Nat} {m : Om} (h : W.heap[b]? = some (.cells m.cells 35 (0, 0))) : W.rangeAt b 3 (ltC m.o.x m.ap m.ac m.rp m.rc).toList := fun j v hv => by
  have hj : j < 13 := by
    have := (List.getElem?_eq_some_iff.1 hv).1
    simpa [ltC] using this
  have e : m.cells.toList = .int .i64 m.o.kind :: .int .i64 m.o.frm :: .int .i64 m.o.dst :: (ltC m.o.x m.ap m.ac m.rp m.rc).toList := rfl
  rw [cell_of_row W b (3 + j) _ _ _ h, ← Array.getElem?_toList, e, show 3 + j = j + 1 + 1 + 1 by omega]
  exact hv

end Go.Proofs.Ytjcfbnhmljlkpaa
