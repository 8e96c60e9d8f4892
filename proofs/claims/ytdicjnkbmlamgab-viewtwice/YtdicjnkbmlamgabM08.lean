/- ArrEq, Base, PkMem. -/
import Derived.Test.YtdicjnkbmlamgabM07
import Derived.Deep.MidRow
import Derived.Test.YtdicjnkbmlamgabM01
namespace Go.Proofs.Ytdicjnkbmlamgab
open Go.RowKit
open Slot

/-- are two sets the same? -/
def sameB (S T : Nat → Bool) : Bool := (List.range' 0 256).all fun i => word S i == word T i
theorem sameB_iff (S T : Nat → Bool) : sameB S T = true ↔ ∀ n, n < top → S n = T n := by
  unfold sameB
  rw [List.all_eq_true]
  constructor
  · intro h
    exact word_inj fun i hi => by simpa using h i (by simp; omega)
  · intro h i hi
    have hi' : i < 256 := by simp at hi; omega
    simp only [beq_iff_eq]
    exact word_congr fun k _ => h _ (by unfold top; omega)
theorem eq_loop (S T : Nat → Bool) (w : World) : ∀ L : List Nat, (∀ i ∈ L, i < 256) →
    Sem.run Try.prog (forIn (m := Sem) L ((none, ()) : Option Bool × Unit) fun i __s => do
      let __do_lift ← part 22 (cellsOf S) (i * 1)
      let __do_lift_1 ← part 22 (cellsOf T) (i * 1)
      let __do_lift ← Op.equalIn 9999 22 __do_lift __do_lift_1
      if (!__do_lift) = true then pure (ForInStep.done (some false, ())) else pure (ForInStep.yield (none, ()))) w
    = .ok (if L.all (fun i => word S i == word T i) then (none, ()) else (some false, ())) w
  | [], _ => by simp
  | i :: L, h => by
    have u3 := Try.underlying22
    have a3 := Try.isAgg22
    have z3 := Try.sizeOf22
    have ih := eq_loop S T w L (fun j hj => h j (List.mem_cons_of_mem _ hj))
    have hi := h i (by simp)
    have hS := cellsOf_get S i hi
    have hT := cellsOf_get T i hi
    rw [List.forIn_cons]
    rw [Nat.mul_one]
    simp only [part, Sem.run_bind, a3, Result.andThen_ok, hS, hT, Sem.run_pure, Bool.false_eq_true, if_false]
    rw [show (9999 : Nat) = 9998 + 1 from rfl, run_equalIn_int w 9998 22 .u64 .u64 _ _ u3]
    simp only [Result.andThen_ok]
    by_cases e : word S i = word T i
    · rw [show (((word S i : Nat) : Int) == ((word T i : Nat) : Int)) = true by rw [e]; simp]
      simp only [Bool.not_true, Bool.false_eq_true, if_false, Sem.run_pure, Result.andThen_ok]
      have ee : (word S i == word T i) = true := by simp [e]
      simp only [List.all_cons, ee, Bool.true_and]
      exact ih
    · have e1 : (((word S i : Nat) : Int) == ((word T i : Nat) : Int)) = false := by rw [beq_eq_false_iff_ne]; omega
      have e2 : (word S i == word T i) = false := by rw [beq_eq_false_iff_ne]; exact e
      rw [e1]
      simp [e2]
theorem eq_bits (S T : Nat → Bool) (w : World) : (Op.equalIn 10000 24 (.agg (cellsOf S)) (.agg (cellsOf T))).run Try.prog w = .ok (sameB S T) w := by
  have z3 := Try.sizeOf22
  rw [show (10000 : Nat) = 9999 + 1 from rfl, Op.equalIn]
  simp only [Sem.run_bind, run_underlying Try.underlying24, Result.andThen_ok]
  simp only [Std.Legacy.Range.forIn_eq_forIn_range', Std.Legacy.Range.size, Nat.sub_zero, Nat.add_sub_cancel, Nat.div_one]
  rw [z3]
  simp only [Result.andThen_ok]
  rw [eq_loop S T w (List.range' 0 256) (fun i hi => by simp at hi; omega)]
  unfold sameB
  cases (List.range' 0 256).all fun i => word S i == word T i <;> rfl

end Go.Proofs.Ytdicjnkbmlamgab

namespace Go.Proofs.Ytdicjnkbmlamgab
open Go.RowKit

/-- a whole array is read, under a guard that holds or under none -/
theorem wpList_load_want {P : Program} {ops : Array Oper} {rest : List Oper} {o : Oper} {a : Act} {w : World} {Q : Exit → Act → World → Prop} (hw : Region.wanted o (yielded ops a.tmps) = true) (ty : TypeId) (x : Operand) (ho : o.op = .load ty x)
    (g : Nat) (hx : a.eval x = .pointer (some ⟨g, 0, none⟩)) (t : TypeId) (cs : Array Value) (fr : Nat × Nat) (d : TypeDesc) (hg : w.heap[g]? = some (.cells cs t fr))
    (hu : P.underlying ty = some d) (hd : (match d with | .struct _ | .array _ _ => true | _ => false) = true) (hi : (P.info? ty).map (·.size) = some cs.size)
    (h : wpList P ops Q rest (a.put o.dst (.agg cs)) w) : wpList P ops Q (o :: rest) a w := by
  refine wpList_step fun K hK => ?_
  rw [if_pos hw]
  exact wp_load_row ty x ho g hx t cs fr d hg hu hd hi (hK _ _ h)

end Go.Proofs.Ytdicjnkbmlamgab

namespace Go.Proofs.Ytdicjnkbmlamgab
open Go.RowKit
open Slot

def pkCells (p : Pk) : Array Value := #[.int .i64 p.kind, .int .i64 p.frm, .int .i64 p.of_, .int .u64 (p.epoch : Int), .int .u64 (p.cur : Int)] ++ cellsOf p.cl
theorem pkCells_size (p : Pk) : (pkCells p).size = 261 := by simp [pkCells, cellsOf_size]
theorem pk_lo (p : Pk) {i : Nat} (h : i < 5) : (pkCells p)[i]? = (#[.int .i64 p.kind, .int .i64 p.frm, .int .i64 p.of_, .int .u64 (p.epoch : Int), .int .u64 (p.cur : Int)] : Array Value)[i]? := by
  unfold pkCells; rw [Array.getElem?_append_left (by simpa using h)]
theorem pk_hi (p : Pk) (i : Nat) : (pkCells p)[5 + i]? = (cellsOf p.cl)[i]? := by
  unfold pkCells; rw [Array.getElem?_append_right (by simp)]; simp
/-- a packet in block b -/
def PBox (w : World) (b : Nat) (p : Pk) : Prop := w.heap[b]? = some (.cells (pkCells p) 29 (0, 0))
theorem PBox.lt {w : World} {b : Nat} {p : Pk} (h : PBox w b p) : b < w.heap.size := (Array.getElem?_eq_some_iff.1 h).1
theorem PBox.below {w w' : World} {n b : Nat} {p : Pk} (h : PBox w b p) (hb : Below n w w') (hn : b < n) : PBox w' b p := (hb.block b hn).trans h
theorem PBox.cells {w : World} {b : Nat} {p : Pk} (h : PBox w b p) : w.cell? ⟨b, 0, none⟩ = some (.int .i64 p.kind) ∧ w.cell? ⟨b, 1, none⟩ = some (.int .i64 p.frm) ∧ w.cell? ⟨b, 2, none⟩ = some (.int .i64 p.of_) ∧ w.cell? ⟨b, 3, none⟩ = some (.int .u64 (p.epoch : Int)) ∧ w.cell? ⟨b, 4, none⟩ = some (.int .u64 (p.cur : Int)) := by
  refine ⟨?_, ?_, ?_, ?_, ?_⟩ <;> rw [cell_of_row w b _ _ _ _ h, pk_lo p (by decide)] <;> rfl
theorem PBox.range {w : World} {b : Nat} {p : Pk} (h : PBox w b p) : w.rangeAt b 5 (cellsOf p.cl).toList := fun j v hv => by
  rw [cell_of_row w b _ _ _ _ h, pk_hi, ← Array.getElem?_toList]; exact hv
theorem pbox_new (w : World) (p : Pk) : PBox (w.alloc (.cells (pkCells p) 29)) w.heap.size p := heap_alloc_new w _
theorem infoPk (p : Pk) : (Try.prog.info? 29).map (·.size) = some (pkCells p).size := by
  rw [pkCells_size]; kernel_rfl
theorem infoCl (S : Nat → Bool) : (Try.prog.info? 24).map (·.size) = some (cellsOf S).toList.length := by
  rw [Array.length_toList]; exact infoBits S
theorem onePk (p : Pk) : (pkCells p).all (·.oneCell') = true := by
  unfold pkCells
  rw [Array.all_append, oneCells, Bool.and_true]
  simp [Value.oneCell']
theorem sizesPk (p q : Pk) : (pkCells p).size = (pkCells q).size := by rw [pkCells_size, pkCells_size]
def zeroP : Pk := ⟨0, 0, 0, 0, 0, fun _ => false⟩
theorem zeroRepP : Try.zeroCells29 = #[.int .i64 0, .int .i64 0, .int .i64 0, .int .u64 0, .int .u64 0] ++ Array.replicate 256 (.int .u64 0) := by kernel_rfl
theorem zeroPk : Try.zeroCells29 = pkCells zeroP := by
  rw [zeroRepP, ← zeroRep, zeroBits]
  rfl
theorem toArr (S : Nat → Bool) : (cellsOf S).toList.toArray = cellsOf S := Array.toArray_toList
theorem pbox_set {w : World} {b : Nat} {p q : Pk} (h : PBox w b p) : PBox (w.setRow b (pkCells q)) b q := setRow_heap w b _ _ _ _ h
/-- a packet that is told lies in its own block -/
theorem ret_pk {fn : Func} {p : Tmp} (h : fn.results = #[.cell p 29]) {tmps : Array Value} {w : World} {b : Nat} {P : Pk} (hp : tmps.getD p undef = .pointer (some ⟨b, 0, none⟩)) (hB : PBox w b P) :
    (results fn tmps).run Try.prog w = .ok (.agg (pkCells P)) w :=
  results_cell_row h tmps w b 29 (pkCells P) (0, 0) _ hp hB Try.underlying29 rfl (infoPk P)
theorem ret_pk2 {fn : Func} {p q : Tmp} (h : fn.results = #[.cell p 29, .tmp q]) {tmps : Array Value} {w : World} {b : Nat} {P : Pk} {v : Value} (hp : tmps.getD p undef = .pointer (some ⟨b, 0, none⟩)) (hq : tmps.getD q undef = v) (hB : PBox w b P) :
    (results fn tmps).run Try.prog w = .ok (.tuple #[.agg (pkCells P), v]) w := by
  have hp' : tmps[p]?.getD undef = .pointer (some ⟨b, 0, none⟩) := by simpa using hp
  have hq' : tmps[q]?.getD undef = v := by simpa using hq
  simp [results, h, hp', hq', asAddr, run_loadVar_row w b 29 29 (pkCells P) (0, 0) _ hB Try.underlying29 rfl (infoPk P)]

/-- are two packets the same? -/
def sameP (p q : Pk) : Bool := p.kind == q.kind && (p.frm == q.frm && (p.of_ == q.of_ && (((p.epoch : Int) == (q.epoch : Int)) && (((p.cur : Int) == (q.cur : Int)) && sameB p.cl q.cl))))
theorem sameP_iff (p q : Pk) : sameP p q = true ↔ Like p q := by
  unfold sameP Like
  simp only [Bool.and_eq_true, beq_iff_eq, sameB_iff, Int.natCast_inj]
theorem eqAt_loop (d : Nat) (S T : Nat → Bool) (w : World) : ∀ L : List Nat, (∀ i ∈ L, i < 256) →
    Sem.run Try.prog (forIn (m := Sem) L ((none, ()) : Option Bool × Unit) fun i __s => do
      let __do_lift ← part 22 (cellsOf S) (i * 1)
      let __do_lift_1 ← part 22 (cellsOf T) (i * 1)
      let __do_lift ← Op.equalIn (d + 1) 22 __do_lift __do_lift_1
      if (!__do_lift) = true then pure (ForInStep.done (some false, ())) else pure (ForInStep.yield (none, ()))) w
    = .ok (if L.all (fun i => word S i == word T i) then (none, ()) else (some false, ())) w
  | [], _ => by simp
  | i :: L, h => by
    have u3 := Try.underlying22
    have a3 := Try.isAgg22
    have ih := eqAt_loop d S T w L (fun j hj => h j (List.mem_cons_of_mem _ hj))
    have hi := h i (by simp)
    have hS := cellsOf_get S i hi
    have hT := cellsOf_get T i hi
    rw [List.forIn_cons]
    rw [Nat.mul_one]
    simp only [part, Sem.run_bind, a3, Result.andThen_ok, hS, hT, Sem.run_pure, Bool.false_eq_true, if_false]
    rw [run_equalIn_int w d 22 .u64 .u64 _ _ u3]
    simp only [Result.andThen_ok]
    by_cases e : word S i = word T i
    · rw [show (((word S i : Nat) : Int) == ((word T i : Nat) : Int)) = true by rw [e]; simp]
      simp only [Bool.not_true, Bool.false_eq_true, if_false, Sem.run_pure, Result.andThen_ok]
      have ee : (word S i == word T i) = true := by simp [e]
      simp only [List.all_cons, ee, Bool.true_and]
      exact ih
    · have e1 : (((word S i : Nat) : Int) == ((word T i : Nat) : Int)) = false := by rw [beq_eq_false_iff_ne]; omega
      have e2 : (word S i == word T i) = false := by rw [beq_eq_false_iff_ne]; exact e
      rw [e1]
      simp [e2]
theorem eqAt_bits (d : Nat) (S T : Nat → Bool) (w : World) : (Op.equalIn (d + 2) 24 (.agg (cellsOf S)) (.agg (cellsOf T))).run Try.prog w = .ok (sameB S T) w := by
  have z3 := Try.sizeOf22
  rw [Op.equalIn]
  simp only [Sem.run_bind, run_underlying Try.underlying24, Result.andThen_ok]
  simp only [Std.Legacy.Range.forIn_eq_forIn_range', Std.Legacy.Range.size, Nat.sub_zero, Nat.add_sub_cancel, Nat.div_one]
  rw [z3]
  simp only [Result.andThen_ok]
  rw [eqAt_loop d S T w (List.range' 0 256) (fun i hi => by simp at hi; omega)]
  unfold sameB
  cases (List.range' 0 256).all fun i => word S i == word T i <;> rfl
theorem part_cl (p : Pk) (w : World) : (part 24 (pkCells p) 5).run Try.prog w = .ok (.agg (cellsOf p.cl)) w := by
  have e : (pkCells p).extract 5 (5 + 256) = cellsOf p.cl := by
    apply Array.ext_getElem?
    intro i
    by_cases hi : i < 256
    · rw [Array.getElem?_extract, if_pos (by rw [pkCells_size]; omega), pk_hi]
    · rw [Array.getElem?_eq_none (by rw [Array.size_extract, pkCells_size]; omega), Array.getElem?_eq_none (by rw [cellsOf_size]; omega)]
  simp only [part, Sem.run_bind, Try.isAgg24, Result.andThen_ok, if_true, Try.sizeOf24, Sem.run_pure, e]
def fieldsP : Array Field := #[{ name := "Kind", type := 3, offset := 0, embedded := false, tag := "", pkgPath := "", byteOffset := 0 }, { name := "From", type := 3, offset := 1, embedded := false, tag := "", pkgPath := "", byteOffset := 8 }, { name := "Of", type := 3, offset := 2, embedded := false, tag := "", pkgPath := "", byteOffset := 16 }, { name := "Epoch", type := 22, offset := 3, embedded := false, tag := "", pkgPath := "", byteOffset := 24 }, { name := "Current", type := 22, offset := 4, embedded := false, tag := "", pkgPath := "", byteOffset := 32 }, { name := "Claims", type := 24, offset := 5, embedded := false, tag := "", pkgPath := "", byteOffset := 40 }]
theorem eq_packet (p q : Pk) (w : World) : (Op.equalIn 10000 29 (.agg (pkCells p)) (.agg (pkCells q))).run Try.prog w = .ok (sameP p q) w := by
  have hF : Try.prog.fieldsOf 29 = fieldsP := by unfold Program.fieldsOf; rw [Try.underlying29]; rfl
  have u3 := Try.underlying3
  have u22 := Try.underlying22
  have a3 := Try.isAgg3
  have a22 := Try.isAgg22
  have pi : ∀ (r : Pk) (i : Nat) (v : Value) (w : World), (pkCells r)[i]? = some v → (part 3 (pkCells r) i).run Try.prog w = .ok v w := fun r i v w h => by
    simp only [part, Sem.run_bind, a3, Result.andThen_ok, Bool.false_eq_true, if_false, h, Sem.run_pure]
  have pu : ∀ (r : Pk) (i : Nat) (v : Value) (w : World), (pkCells r)[i]? = some v → (part 22 (pkCells r) i).run Try.prog w = .ok v w := fun r i v w h => by
    simp only [part, Sem.run_bind, a22, Result.andThen_ok, Bool.false_eq_true, if_false, h, Sem.run_pure]
  have q0 : ∀ (r : Pk) (w : World), (part 3 (pkCells r) 0).run Try.prog w = .ok (.int .i64 r.kind) w := fun r w => pi r 0 _ w (by rw [pk_lo r (by decide)]; rfl)
  have q1 : ∀ (r : Pk) (w : World), (part 3 (pkCells r) 1).run Try.prog w = .ok (.int .i64 r.frm) w := fun r w => pi r 1 _ w (by rw [pk_lo r (by decide)]; rfl)
  have q2 : ∀ (r : Pk) (w : World), (part 3 (pkCells r) 2).run Try.prog w = .ok (.int .i64 r.of_) w := fun r w => pi r 2 _ w (by rw [pk_lo r (by decide)]; rfl)
  have q3 : ∀ (r : Pk) (w : World), (part 22 (pkCells r) 3).run Try.prog w = .ok (.int .u64 (r.epoch : Int)) w := fun r w => pu r 3 _ w (by rw [pk_lo r (by decide)]; rfl)
  have q4 : ∀ (r : Pk) (w : World), (part 22 (pkCells r) 4).run Try.prog w = .ok (.int .u64 (r.cur : Int)) w := fun r w => pu r 4 _ w (by rw [pk_lo r (by decide)]; rfl)
  rw [show (10000 : Nat) = 9999 + 1 from rfl, run_equalIn_struct w 9999 29 _ _ (by rw [hF]; exact Try.underlying29) Try.stoodInHeld29, hF]
  have e3 : ∀ (a b : Int) (w : World), (Op.equalIn 9999 3 (.int .i64 a) (.int .i64 b)).run Try.prog w = .ok (a == b) w := fun a b w => run_equalIn_int w 9998 3 .i64 .i64 a b u3
  have e22 : ∀ (a b : Int) (w : World), (Op.equalIn 9999 22 (.int .u64 a) (.int .u64 b)).run Try.prog w = .ok (a == b) w := fun a b w => run_equalIn_int w 9998 22 .u64 .u64 a b u22
  have e24 : ∀ (S T : Nat → Bool) (w : World), (Op.equalIn 9999 24 (.agg (cellsOf S)) (.agg (cellsOf T))).run Try.prog w = .ok (sameB S T) w := fun S T w => eqAt_bits 9997 S T w
  simp only [fieldsP, Op.eqFields, ne_eq, String.reduceEq, not_false_eq_true, if_true, Sem.run_bind, Sem.run_ite, Sem.run_pure, q0, q1, q2, q3, q4, part_cl, e3, e22, e24, Result.andThen_ok]
  unfold sameP
  cases p.kind == q.kind <;> cases p.frm == q.frm <;> cases p.of_ == q.of_ <;> cases (p.epoch : Int) == (q.epoch : Int) <;> cases (p.cur : Int) == (q.cur : Int) <;> cases sameB p.cl q.cl <;> rfl

theorem fill_get (off : Nat) : ∀ (l : List Value) (k : Nat) (cells : Array Value) (i : Nat), (((l.zipIdx k).foldl (fun cs (x : Value × Nat) => cs.setIfInBounds (off + x.2) x.1) cells))[i]? = if off + k ≤ i ∧ i < off + k + l.length ∧ i < cells.size then l[i - off - k]? else cells[i]?
  | [], k, cells, i => by
    rw [if_neg (by simp only [List.length_nil]; omega)]; rfl
  | v :: l, k, cells, i => by
    rw [List.zipIdx_cons, List.foldl_cons, fill_get off l (k + 1)]
    simp only [Array.size_setIfInBounds, List.length_cons]
    by_cases h1 : off + (k + 1) ≤ i ∧ i < off + (k + 1) + l.length ∧ i < cells.size
    · rw [if_pos h1, if_pos (by omega), show i - off - k = (i - off - (k + 1)) + 1 by omega, List.getElem?_cons_succ]
    · rw [if_neg h1]
      by_cases h2 : i = off + k
      · subst h2
        by_cases h3 : off + k < cells.size
        · rw [if_pos (by omega), Array.getElem?_setIfInBounds_self_of_lt h3, show off + k - off - k = 0 by omega]; rfl
        · rw [if_neg (by omega), Array.getElem?_eq_none (by simp; omega), Array.getElem?_eq_none (by omega)]
      · rw [Array.getElem?_setIfInBounds_ne (fun e => h2 e.symm), if_neg (by omega)]
theorem fill_row (a b c : Array Value) (h : c.size = b.size) : (c.zipIdx.foldl (fun cs (x : Value × Nat) => cs.setIfInBounds (a.size + x.2) x.1) (a ++ b)) = a ++ c := by
  have e : c.zipIdx.foldl (fun cs (x : Value × Nat) => cs.setIfInBounds (a.size + x.2) x.1) (a ++ b) = (c.toList.zipIdx 0).foldl (fun cs (x : Value × Nat) => cs.setIfInBounds (a.size + x.2) x.1) (a ++ b) := by
    rw [← Array.foldl_toList, Array.toList_zipIdx]
  rw [e]
  apply Array.ext_getElem?
  intro i
  rw [fill_get]
  simp only [Nat.add_zero, Array.length_toList, Nat.sub_zero, Array.size_append]
  by_cases h1 : i < a.size
  · rw [if_neg (by omega), Array.getElem?_append_left h1, Array.getElem?_append_left h1]
  · rw [Array.getElem?_append_right (by omega), Array.getElem?_append_right (by omega)]
    by_cases h2 : i < a.size + c.size
    · rw [if_pos (by omega), Array.getElem?_toList]
    · rw [if_neg (by omega), Array.getElem?_eq_none (by omega), Array.getElem?_eq_none (by omega)]
theorem fill_app (place : Nat → Option (Nat × Nat)) : ∀ (l m : List (Nat × Value)) (cells : Array Value), Instr.fill place cells (l ++ m) = (Instr.fill place cells l).bind fun c => Instr.fill place c m
  | [], m, cells => rfl
  | (i, v) :: l, m, cells => by
    simp only [List.cons_append, Instr.fill]
    cases place i with
    | none => rfl
    | some q =>
      simp only
      split
      · rfl
      · exact fill_app place l m _
def placesP : Array (Nat × Nat) := #[(0, 1), (1, 1), (2, 1), (3, 1), (4, 1), (5, 256)]
theorem built_any (parts : List (Nat × Value)) : Try.prog.built 29 parts = Instr.fill (fun i => placesP[i]?) (#[.int .i64 0, .int .i64 0, .int .i64 0, .int .u64 0, .int .u64 0] ++ Array.replicate 256 (.int .u64 0)) parts := by kernel_rfl
theorem built_five (k f o e c : Int) : Instr.fill (fun i => placesP[i]?) (#[.int .i64 0, .int .i64 0, .int .i64 0, .int .u64 0, .int .u64 0] ++ Array.replicate 256 (.int .u64 0)) [(0, .int .i64 k), (1, .int .i64 f), (2, .int .i64 o), (3, .int .u64 e), (4, .int .u64 c)] = some (#[.int .i64 k, .int .i64 f, .int .i64 o, .int .u64 e, .int .u64 c] ++ Array.replicate 256 (.int .u64 0)) := by kernel_rfl
theorem built_pk (p : Pk) : Try.prog.built 29 [(0, .int .i64 p.kind), (1, .int .i64 p.frm), (2, .int .i64 p.of_), (3, .int .u64 (p.epoch : Int)), (4, .int .u64 (p.cur : Int)), (5, .agg (cellsOf p.cl))] = some (pkCells p) := by
  rw [built_any]
  have := fill_app (fun i => placesP[i]?) [(0, .int .i64 p.kind), (1, .int .i64 p.frm), (2, .int .i64 p.of_), (3, .int .u64 (p.epoch : Int)), (4, .int .u64 (p.cur : Int))] [(5, .agg (cellsOf p.cl))] (#[.int .i64 0, .int .i64 0, .int .i64 0, .int .u64 0, .int .u64 0] ++ Array.replicate 256 (.int .u64 0))
  rw [List.cons_append, List.cons_append, List.cons_append, List.cons_append, List.cons_append, List.nil_append] at this
  rw [this, built_five, Option.bind_some]
  have h5 : placesP[5]? = some (5, 256) := rfl
  simp only [Instr.fill, h5, Value.cells, cellsOf_size, Array.size_append, Array.size_replicate]
  rw [if_neg (by simp)]
  refine congrArg some ?_
  exact fill_row #[.int .i64 p.kind, .int .i64 p.frm, .int .i64 p.of_, .int .u64 (p.epoch : Int), .int .u64 (p.cur : Int)] (Array.replicate 256 (.int .u64 0)) (cellsOf p.cl) (by rw [cellsOf_size]; simp)
theorem build_pk (p : Pk) (w : World) : (Instr.build 29 #[(0, .int .i64 p.kind), (1, .int .i64 p.frm), (2, .int .i64 p.of_), (3, .int .u64 (p.epoch : Int)), (4, .int .u64 (p.cur : Int)), (5, .agg (cellsOf p.cl))]).run Try.prog w = .ok (.agg (pkCells p)) w :=
  run_build w _ _ _ (built_pk p)
theorem build_zero (w : World) : (Instr.build 29 #[]).run Try.prog w = .ok (.agg (pkCells zeroP)) w := by
  refine run_build w _ _ _ ?_
  rw [built_any]
  show some _ = _
  rw [← zeroRepP, zeroPk]

end Go.Proofs.Ytdicjnkbmlamgab
