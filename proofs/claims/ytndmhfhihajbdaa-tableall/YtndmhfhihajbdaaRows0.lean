/- The table's rows, and the document's commands: literals that the kernel reckons. -/
import Derived.Test.YtndmhfhihajbdaaOwn
import Derived.Great.Walk
namespace Go.Proofs.Ytndmhfhihajbdaa
open Go.RowKit

/-- operations that build values, one behind the other -/
def evalB (P : Program) : List Oper → Act → Option Act
  | [], a => some a
  | o :: r, a => match o.op with
    | .build t parts => if o.guard.isNone then (match P.built t (parts.map fun (i, x) => (i, a.eval x)).toList with
        | some cs => evalB P r (a.put o.dst (.agg cs))
        | none => none) else none
    | _ => none
theorem wpList_evalB {P : Program} {ops : Array Oper} {Q : Exit → Act → World → Prop} {w : World} {rest : List Oper} {a' : Act} (h : wpList P ops Q rest a' w) : ∀ (l : List Oper) (a : Act), evalB P l a = some a' → wpList P ops Q (l ++ rest) a w
  | [], a, e => by
    injection e with e
    subst e
    exact h
  | o :: r, a, e => by
    unfold evalB at e
    split at e
    · rename_i t parts ho
      split at e
      · rename_i hg
        split at e
        · rename_i cs hc
          exact Go.wpList_buildTo (Option.isNone_iff_eq_none.1 hg) t parts ho _ rfl cs hc (wpList_evalB h r _ e)
        · cases e
      · cases e
    · cases e
/-- a region that begins with such -/
theorem wp_region_builds {P : Program} {id : Nat} {ops : Array Oper} {Q : Exit → Act → World → Prop} {a : Act} {w : World} (n : Nat) (f : Act → Bool × Nat × List Value) (x : Bool × Nat × List Value) (hE : (evalB P (ops.toList.take n) a).map f = some x)
    (h : ∀ a', f a' = x → wpList P ops Q (ops.toList.drop n) a' w) : (Code.region id ops false).wp P Q a w := by
  refine wp_region_list ?_
  cases he : evalB P (ops.toList.take n) a with
  | none => rw [he] at hE; cases hE
  | some a' =>
    rw [he, Option.map_some] at hE
    have := wpList_evalB (h a' (Option.some.inj hE)) _ _ he
    rwa [List.take_append_drop] at this

theorem below_setRow {B : Nat} {a w : World} (h : Below B a w) {g : Nat} (hg : B ≤ g) (cs : Array Value) : Below B a (w.setRow g cs) :=
  h.trans ⟨rfl, rfl, rfl, by simp, fun k hk => setRow_other w g k cs (by omega)⟩
def zeroRows : Array Value := (flat (List.replicate 48 zeroSp)).toArray
theorem zero_rows (w : World) : (zeroValue 42).run Try.prog w = .ok (.agg zeroRows) w := by kernel_rfl
theorem size_rows : rowCells.size = 336 := by kernel_rfl
theorem size_zero : zeroRows.size = rowCells.size := by kernel_rfl
theorem info_rows : (Try.prog.info? 42).map (·.size) = some rowCells.size := by kernel_rfl
theorem ones_rows : rowCells.all (·.oneCell') = true := by kernel_rfl
theorem ret_rows {fn : Func} {p : Tmp} (h : fn.results = #[.cell p 42]) {tmps : Array Value} {w : World} {b : Nat} (hp : tmps.getD p undef = .pointer (some ⟨b, 0, none⟩)) (hB : w.heap[b]? = some (.cells rowCells 42 (0, 0))) :
    (results fn tmps).run Try.prog w = .ok (.agg rowCells) w :=
  results_cell_row h tmps w b 42 rowCells (0, 0) _ hp hB Try.underlying42 rfl info_rows
def look (a : Act) : Bool × Nat × List Value := (a.defers.isEmpty, a.tmps.size, [a.eval (.tmp 0), a.eval (.tmp 48)])
set_option maxHeartbeats 4000000 in
set_option maxRecDepth 100000 in
theorem rows_any (w : World) : Calls Try.prog 19 #[] w fun e w' => e = .returned (.agg rowCells) ∧ Hid (Below w.heap.size w w') := by
  go_enter Try.func19, Try.ntmps19
  refine Go.wp_seq (Go.wp_region_list (Go.Great.wpList_allocTo rfl (some 0) rfl (.pointer (some ⟨w.heap.size, 0, none⟩)) (.cells zeroRows 42) (by kernel_rfl) (Go.wpList_nil ?_)))
  refine Go.wp_seq (wp_region_builds 48 look (true, 49, [.pointer (some ⟨w.heap.size, 0, none⟩), .agg rowCells]) (by kernel_rfl) fun a' ha => ?_)
  obtain ⟨hd, hs, h0, h48⟩ : a'.defers.isEmpty = true ∧ a'.tmps.size = 49 ∧ a'.eval (.tmp 0) = .pointer (some ⟨w.heap.size, 0, none⟩) ∧ a'.eval (.tmp 48) = .agg rowCells := by simpa [look] using ha
  refine Go.wpList_store_rowTo rfl 42 (.tmp 0) (.tmp 48) rfl rfl w.heap.size rowCells h0 h48 42 zeroRows (heap_alloc_new _ _) info_rows size_zero ones_rows (Go.wpList_nil ?_)
  exact Go.wp_ret (bodyPost_ret (v := .agg rowCells) (ret_rows rfl h0 (setRow_heap _ _ _ _ _ _ (heap_alloc_new _ _))) (List.isEmpty_iff.1 hd) ⟨rfl, below_setRow (below_alloc _ _) (Nat.le_refl _) _⟩)
/-- what a slice literal's block holds, by an operation -/
def fS (P : Program) (e len : Nat) (o : Oper) (a : Act) : Option (Bool × Nat × Array Value) := match o.op with
  | .buildSlice _ _ parts => (P.builtSlice e len (parts.map fun (i, x) => (i, a.eval x)).toList).map fun cs => (a.defers.isEmpty, a.tmps.size, cs)
  | _ => none
theorem wp_region_slice {P : Program} {id : Nat} {ops : Array Oper} {Q : Exit → Act → World → Prop} {a : Act} {w : World} (n t e len : Nat) {o : Oper} {rest : List Oper} (ho : ops.toList.drop n = o :: rest) (hg : o.guard = none)
    (hl : (match o.op with | .buildSlice t' len' _ => t' == t && len' == len | _ => false) = true) (hu : P.underlying t = some (.slice e)) (m : Nat) (cells : Array Value) (hE : (evalB P (ops.toList.take n) a).bind (fS P e len o) = some (true, m, cells))
    (h : ∀ a' : Act, a'.defers = [] → a'.tmps.size = m → wpList P ops Q rest (a'.put o.dst (.slice (some ⟨w.heap.size, 0, none⟩) len len)) (w.alloc (.cells cells e))) : (Code.region id ops false).wp P Q a w := by
  refine wp_region_list ?_
  cases he : evalB P (ops.toList.take n) a with
  | none => rw [he] at hE; cases hE
  | some a' =>
    rw [he, Option.bind_some] at hE
    unfold fS at hE
    cases hop : o.op <;> rw [hop] at hl hE <;> try (cases hl)
    rename_i t' len' parts
    simp only [Bool.and_eq_true, beq_iff_eq] at hl
    obtain ⟨rfl, rfl⟩ := hl
    cases hb : P.builtSlice e len' (parts.map fun (i, x) => (i, a'.eval x)).toList with
    | none => simp only [hb] at hE; cases hE
    | some cs =>
      simp only [hb, Option.map_some, Option.some.injEq, Prod.mk.injEq] at hE
      obtain ⟨h1, h2, rfl⟩ := hE
      have := wpList_evalB (Q := Q) (ops := ops) (w := w) (Go.Great.wpList_buildSliceTo hg t' e len' parts hop w.heap.size rfl o.dst rfl hu cs hb (h a' (List.isEmpty_iff.1 h1) h2)) _ _ he
      rwa [← ho, List.take_append_drop] at this
set_option maxHeartbeats 4000000 in
set_option maxRecDepth 100000 in
/-- the document's All -/
theorem rall_any (w : World) : Calls Try.prog 10 #[] w fun e w' => e = .returned (.slice (some ⟨w.heap.size, 0, none⟩) 47 47) ∧ w' = w.alloc (.cells allCells 25) := by
  go_enter Try.func10, Try.ntmps10
  refine Go.wp_seq (Go.wp_region_list (Go.Great.wpList_readTo rfl (some 0) rfl (.slice none 0 0) (by kernel_rfl) (Go.wpList_nil ?_)))
  refine Go.wp_seq (wp_region_slice 47 22 25 47 rfl rfl rfl Try.underlying22 49 allCells (by kernel_rfl) fun a' hd hs => ?_)
  have h48 : (a'.put (some 48) (.slice (some ⟨w.heap.size, 0, none⟩) 47 47)).eval (.tmp 48) = .slice (some ⟨w.heap.size, 0, none⟩) 47 47 := by simp [Act.put, Act.eval, hs]
  refine Go.Great.wpList_readTo rfl (some 0) rfl (.slice (some ⟨w.heap.size, 0, none⟩) 47 47) (by simp [execOp, h48]) (Go.wpList_nil ?_)
  refine Go.wp_ret (bodyPost_ret (v := .slice (some ⟨w.heap.size, 0, none⟩) 47 47) ?_ ?_ ⟨rfl, rfl⟩)
  · simp [results, Act.put, hs]
  · simp [Act.put, hd]

end Go.Proofs.Ytndmhfhihajbdaa
