/- FewOne. -/
import Derived.BigFrame
import Derived.Test.YtdicjnkbmlamgabM35
namespace Go.Proofs.Ytdicjnkbmlamgab
open Go.RowKit
open Slot

def placesO : Array (Nat × Nat) := #[(0, 1), (1, 1), (2, 1), (3, 1), (4, 261)]
theorem builtO_any (parts : List (Nat × Value)) : Try.prog.built 38 parts = Instr.fill (fun i => placesO[i]?) (#[.int .i64 0, .int .i64 0, .int .i64 0, .int .u64 0] ++ (#[.int .i64 0, .int .i64 0, .int .i64 0, .int .u64 0, .int .u64 0] ++ Array.replicate 256 (.int .u64 0))) parts := by kernel_rfl
theorem built_op (p : Pk) : Try.prog.built 38 [(4, .agg (pkCells p))] = some (opCells ⟨0, 0, 0, 0, p⟩) := by
  rw [builtO_any]
  obtain ⟨Z, hZ⟩ : ∃ Z : Array Value, #[.int .i64 0, .int .i64 0, .int .i64 0, .int .u64 0, .int .u64 0] ++ Array.replicate 256 (.int .u64 0) = Z := ⟨_, rfl⟩
  have hZs : Z.size = 261 := by rw [← hZ]; simp
  rw [hZ]
  have e : opCells ⟨0, 0, 0, 0, p⟩ = #[.int .i64 0, .int .i64 0, .int .i64 0, .int .u64 0] ++ pkCells p := rfl
  rw [e]
  have hs : (pkCells p).size = 261 := pkCells_size p
  generalize pkCells p = PC at hs ⊢
  clear hZ e
  have h1 : placesO[4]? = some (4, 261) := rfl
  have h4 : (#[.int .i64 0, .int .i64 0, .int .i64 0, .int .u64 0] : Array Value).size = 4 := rfl
  have hf := fill_row #[.int .i64 0, .int .i64 0, .int .i64 0, .int .u64 0] Z PC (hs.trans hZs.symm)
  rw [h4] at hf
  generalize (#[.int .i64 0, .int .i64 0, .int .i64 0, .int .u64 0] : Array Value) = A at h4 hf ⊢
  simp only [Instr.fill, h1, Value.cells, Array.size_append, hs, hZs, h4]
  rw [if_neg (by simp)]
  exact congrArg some hf
theorem wp_buildO {o : Oper} {a : Act} {w : World} {K : Act → World → Prop} {Q : Exit → Act → World → Prop} (x : Operand) (ho : o.op = .build 38 #[(4, x)]) (PC OC : Array Value) (hb : Try.prog.built 38 [(4, .agg PC)] = some OC) (hx : a.eval x = .agg PC)
    (h : K (a.put o.dst (.agg OC)) w) : o.wp Try.prog a w K Q := by
  have e : (#[(4, x)].map fun (i, x) => (i, a.eval x)).toList = [(4, .agg PC)] := by simp [hx]
  exact wp_build 38 _ ho (by rw [e, hb]; rfl) (by rw [e, hb]; exact h)
theorem infoOpt : (Try.prog.info? 38).map (fun i => (i.zero.isSome, i.size)) = some (true, 265) := by kernel_rfl
theorem run_bsliceO (OC : Array Value) (hs : OC.size = 265) (w : World) : (Instr.buildSlice 27 1 #[(0, .agg OC)]).run Try.prog w = .ok (.slice (some ⟨w.heap.size, 0, none⟩) 1 1) (w.alloc (.cells OC 38)) := by
  have hi := infoOpt
  cases hi0 : Try.prog.info? 38 with
  | none => rw [hi0] at hi; cases hi
  | some i0 =>
    rw [hi0] at hi
    simp only [Option.map_some, Option.some.injEq, Prod.mk.injEq] at hi
    obtain ⟨hz0, hz1⟩ := hi
    obtain ⟨z, hz⟩ := Option.isSome_iff_exists.1 hz0
    refine run_buildSlice w 27 38 1 _ OC i0 z Try.underlying27 hi0 hz (by rw [hz1]; decide) (by rw [hz1]; decide) ?_
    rw [hz1]
    generalize hB : (Array.range (1 * 265)).map (z.cells[· % z.cells.size]!) = B
    have hBs : B.size = 265 := by rw [← hB]; simp
    show Instr.fill (fun i => some (i * 265, 265)) B [(0, .agg OC)] = some OC
    simp only [Instr.fill, Value.cells, hs, hBs]
    rw [if_neg (by simp)]
    refine congrArg some ?_
    have := fill_row #[] B OC (by rw [hs, hBs])
    simpa using this
theorem wp_bsliceO {o : Oper} {a : Act} {w : World} {K : Act → World → Prop} {Q : Exit → Act → World → Prop} (x : Operand) (ho : o.op = .buildSlice 27 1 #[(0, x)]) (OC : Array Value) (hx : a.eval x = .agg OC) (hs : OC.size = 265)
    (h : K (a.put o.dst (.slice (some ⟨w.heap.size, 0, none⟩) 1 1)) (w.alloc (.cells OC 38))) : o.wp Try.prog a w K Q := by
  unfold Oper.wp execOp
  simp only [ho, List.map_toArray, List.map_cons, List.map_nil, hx, Sem.run_bind, run_bsliceO OC hs w, Result.andThen_ok]
  exact h
/-- few of one packet -/
theorem few_one (p : Pk) (w : World) : Try.prog.built 38 [(4, .agg (pkCells p))] = some (opCells ⟨0, 0, 0, 0, p⟩) ∧ (opCells ⟨0, 0, 0, 0, p⟩).size = 265 ∧
    Calls Try.prog 5 #[.slice (some ⟨w.heap.size, 0, none⟩) 1 1] (w.alloc (.cells (opCells ⟨0, 0, 0, 0, p⟩) 38)) (FewP 1 (w.alloc (.cells (opCells ⟨0, 0, 0, 0, p⟩) 38))) := by
  refine ⟨built_op p, opCells_size _, few_any _ [⟨0, 0, 0, 0, p⟩] 1 1 _ rfl (fun _ => ⟨w.heap.size, 0, rfl, by simp, fun j hj => ?_⟩) (by decide)⟩
  obtain rfl : j = 0 := by simpa using hj
  exact (fun i v hv => by
    rw [cell_of_row _ _ _ _ _ _ (heap_alloc_new w (.cells (opCells ⟨0, 0, 0, 0, p⟩) 38))]
    rw [Array.getElem?_toList] at hv
    simpa using hv)

end Go.Proofs.Ytdicjnkbmlamgab
