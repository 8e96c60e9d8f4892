/- VwRow, VwTake4, VpTell. -/
import Derived.Great.BuildSlice
import Derived.Test.YtbfllifgmlkndaaGreatDoorM25
import Derived.Test.YtbfllifgmlkndaaGreatDoorM26
import Derived.Test.YtbfllifgmlkndaaGreatDoorM29
namespace Go.Proofs.YtbfllifgmlkndaaGreatDoor
open Go.RowKit
open Slot

/-- the cells of a row of packets -/
def flatP (L : List Pk) : List Value := L.flatMap fun p => (pkCells p).toList
theorem flatP_get : ∀ (L : List Pk) (j : Nat) (h : j < L.length) (i : Nat), i < 261 → (flatP L)[j * 261 + i]? = (pkCells L[j]).toList[i]?
  | [], j, h, _, _ => absurd h (Nat.not_lt_zero _)
  | p :: L, 0, _, i, hi => by
    show ((pkCells p).toList ++ flatP L)[0 * 261 + i]? = _
    rw [List.getElem?_append_left (by rw [Array.length_toList, pkCells_size]; omega)]
    simp
  | p :: L, j + 1, h, i, hi => by
    show ((pkCells p).toList ++ flatP L)[(j + 1) * 261 + i]? = _
    rw [List.getElem?_append_right (by rw [Array.length_toList, pkCells_size]; omega), Array.length_toList, pkCells_size, show (j + 1) * 261 + i - 261 = j * 261 + i by omega]
    exact flatP_get L j (by simpa using h) i hi
/-- a row of packets in blocks from B on -/
def OwnP (B : Nat) (W : World) (v : Value) (L : List Pk) : Prop := W.ownsRow B 53 261 v L.length (flatP L)
theorem ownp_nil (B : Nat) (W : World) : OwnP B W (.slice none 0 0) [] := World.ownsRow_nil _ _ _ _
theorem infoPkt : (Tryz.prog.info? 53).map (fun i => (i.zero.isSome, i.size, i.bytes)) = some (true, 261, 2088) := by kernel_rfl
theorem zeroPkV : ((Tryz.prog.info? 53).bind (fun i => i.zero)).map (fun z => z.cells.size) = some 261 := by kernel_rfl
theorem OwnP.shape {B : Nat} {W : World} {v : Value} {L : List Pk} (h : OwnP B W v L) : ∃ a c, v = .slice a L.length c ∧ (∀ x, a = some x → x.block < W.heap.size ∧ B ≤ x.block) ∧ Pks W a L := by
  rcases h.2 with ⟨rfl, h0⟩ | ⟨g, cap, cur, rfl, hg, hh, h1, h2, h3, h4⟩
  · refine ⟨none, 0, by rw [h0], (fun x e => by cases e), fun hne => absurd (List.length_eq_zero_iff.1 h0) hne⟩
  · refine ⟨_, cap, rfl, fun x e => ?_, fun hne => ⟨g, 0, rfl, (Array.getElem?_eq_some_iff.1 hh).1, fun j hj i v hv => ?_⟩⟩
    · cases e
      exact ⟨(Array.getElem?_eq_some_iff.1 hh).1, hg⟩
    · have hi : i < 261 := by
        have := (List.getElem?_eq_some_iff.1 hv).1
        rwa [Array.length_toList, pkCells_size] at this
      rw [cell_of_row W g _ cur _ _ hh, Nat.zero_add]
      have hc := congrArg (fun l : List Value => l[j * 261 + i]?) h4
      simp only [List.getElem?_take] at hc
      have hjl : j * 261 + i < L.length * 261 := by
        have : (j + 1) * 261 ≤ L.length * 261 := Nat.mul_le_mul_right _ hj
        omega
      rw [if_pos hjl, flatP_get L j hj i hi] at hc
      simpa using hc.trans hv
theorem OwnP.below {B : Nat} {W W' : World} {v : Value} {L : List Pk} (h : OwnP B W v L) (hb : Below W.heap.size W W') : OwnP B W' v L := by
  refine ⟨h.1, ?_⟩
  rcases h.2 with h | ⟨g, cap, cur, h1, h2, h3, h4⟩
  · exact .inl h
  · exact .inr ⟨g, cap, cur, h1, h2, (hb.block g (Array.getElem?_eq_some_iff.1 h3).1).trans h3, h4⟩
theorem OwnP.setRow {B b : Nat} {W : World} {v : Value} {L : List Pk} (h : OwnP B W v L) (hb : b < B) (C : Array Value) : OwnP B (W.setRow b C) v L := by
  refine ⟨h.1, ?_⟩
  rcases h.2 with h | ⟨g, cap, cur, h1, h2, h3, h4⟩
  · exact .inl h
  · exact .inr ⟨g, cap, cur, h1, h2, (setRow_other W b g C (by omega)).trans h3, h4⟩
/-- a packet is appended -/
theorem ownp_push {B : Nat} {W : World} {v : Value} {L : List Pk} (h : OwnP B W v L) (q : Pk) (c : Nat) (hc : PBox W c q) (hB : B ≤ W.heap.size) (hl : L.length ≤ 1000) :
    ∃ v' W', (Builtin.append_ #[103, 103] 103 #[v, .slice (some ⟨c, 0, none⟩) 1 1]).run Tryz.prog W = .ok v' W' ∧ OwnP B W' v' (L ++ [q]) ∧ Below B W W' := by
  have hi := infoPkt
  cases hi0 : Tryz.prog.info? 53 with
  | none => rw [hi0] at hi; cases hi
  | some i0 =>
    rw [hi0] at hi
    simp only [Option.map_some, Option.some.injEq, Prod.mk.injEq] at hi
    obtain ⟨hz0, hz1, hz2⟩ := hi
    obtain ⟨z, hz⟩ := Option.isSome_iff_exists.1 hz0
    have hzs : z.cells.size = 261 := by
      have hk := zeroPkV
      rw [hi0, Option.bind_some, hz] at hk
      simpa using hk
    obtain ⟨v', w', hrun, ho, hgr, hnil⟩ := run_append_own (P := Tryz.prog) W B 103 103 53 i0 z 261 2088 Tryz.underlying103 hi0 hz hz1 hz2 hzs (by decide) _ _ _ h ⟨c, 0, none⟩ 1 1 (pkCells q).toList (by rw [Array.length_toList, pkCells_size])
      (fun j u hj => by
        rw [Go.WideShapes.add_plain, Nat.zero_add, cell_of_row W c j _ _ _ hc]
        simpa using hj)
      (fun u hu => by
        have := onePk q
        rw [Array.all_eq_true_iff_forall_mem] at this
        exact this u (Array.mem_toList_iff.1 hu)) (by unfold maxLen; omega) (by omega) hB
    refine ⟨v', w', hrun, ?_, (Below.refl B W).grown hgr hB (fun k hk => (World.ownsRow.lt h k hk).1)⟩
    show w'.ownsRow B 53 261 v' (L ++ [q]).length (flatP (L ++ [q]))
    rw [List.length_append, List.length_singleton, show flatP (L ++ [q]) = flatP L ++ (pkCells q).toList by unfold flatP; rw [List.flatMap_append]; simp]
    exact ho

theorem OwnP.mono {B C : Nat} {W : World} {v : Value} {L : List Pk} (h : OwnP B W v L) (hc : C ≤ B) : OwnP C W v L := by
  refine ⟨h.1, ?_⟩
  rcases h.2 with h | ⟨g, cap, cur, h1, h2, h3, h4⟩
  · exact .inl h
  · exact .inr ⟨g, cap, cur, h1, Nat.le_trans hc h2, h3, h4⟩
theorem OwnP.turn {B : Nat} {W W' : World} {v : Value} {L : List Pk} (h : OwnP B W v L) (hb : ∀ k, B ≤ k → k < W.heap.size → W'.heap[k]? = W.heap[k]?) : OwnP B W' v L := by
  refine ⟨h.1, ?_⟩
  rcases h.2 with h | ⟨g, cap, cur, h1, h2, h3, h4⟩
  · exact .inl h
  · exact .inr ⟨g, cap, cur, h1, h2, (hb g h2 (Array.getElem?_eq_some_iff.1 h3).1).trans h3, h4⟩
/-- a slice literal of one packet -/
theorem run_bslice (PC : Array Value) (hs : PC.size = 261) (w : World) : (Instr.buildSlice 103 1 #[(0, .agg PC)]).run Tryz.prog w = .ok (.slice (some ⟨w.heap.size, 0, none⟩) 1 1) (w.alloc (.cells PC 53)) := by
  have hi := infoPkt
  cases hi0 : Tryz.prog.info? 53 with
  | none => rw [hi0] at hi; cases hi
  | some i0 =>
    rw [hi0] at hi
    simp only [Option.map_some, Option.some.injEq, Prod.mk.injEq] at hi
    obtain ⟨hz0, hz1, hz2⟩ := hi
    obtain ⟨z, hz⟩ := Option.isSome_iff_exists.1 hz0
    refine run_buildSlice w 103 53 1 _ PC i0 z Tryz.underlying103 hi0 hz (by rw [hz1]; decide) (by rw [hz1]; decide) ?_
    rw [hz1]
    generalize hB : (Array.range (1 * 261)).map (z.cells[· % z.cells.size]!) = B
    have hBs : B.size = 261 := by rw [← hB]; simp
    show Instr.fill (fun i => some (i * 261, 261)) B [(0, .agg PC)] = some PC
    simp only [Instr.fill, Value.cells, hs, hBs]
    rw [if_neg (by simp)]
    refine congrArg some ?_
    have := fill_row #[] B PC (by rw [hs, hBs])
    simpa using this
theorem wp_bslice {o : Oper} {a : Act} {w : World} {K : Act → World → Prop} {Q : Exit → Act → World → Prop} (x : Operand) (ho : o.op = .buildSlice 103 1 #[(0, x)]) (PC : Array Value) (hx : a.eval x = .agg PC) (hs : PC.size = 261)
    (h : K (a.put o.dst (.slice (some ⟨w.heap.size, 0, none⟩) 1 1)) (w.alloc (.cells PC 53))) : o.wp Tryz.prog a w K Q := by
  unfold Oper.wp execOp
  simp only [ho, List.map_toArray, List.map_cons, List.map_nil, hx, Sem.run_bind, run_bslice PC hs w, Result.andThen_ok]
  exact h
theorem wp_app {o : Oper} {a : Act} {w : World} {K : Act → World → Prop} {Q : Exit → Act → World → Prop} (s x : Operand) (t : TypeId)
    (ho : o.op = .call { callee := .builtin .append, args := #[s, x], argTypes := #[t, t] }) (v u : Value) (hs : a.eval s = v) (hx : a.eval x = u) {v' : Value} {w' : World}
    (hr : (Builtin.append_ #[t, t] o.type #[v, u]).run Tryz.prog w = .ok v' w') (h : K (a.put o.dst v') w') : o.wp Tryz.prog a w K Q := by
  unfold Oper.wp execOp
  simp only [ho, resolve, invoke, builtin, Sem.run_bind, Sem.run_pure, Result.andThen_ok, List.map_toArray, List.map_cons, List.map_nil, hs, hx, hr]
  exact h

end Go.Proofs.YtbfllifgmlkndaaGreatDoor

namespace Go.Proofs.YtbfllifgmlkndaaGreatDoor
open Go.RowKit
open Slot

/-- a call of Take behind the first lines: the view in its block, nodes of its own -/
def TN (w wx : World) (me g cap cur : Nat) (p : Pk) (E : Nat → Nat) (K : Nat → Nat → Bool) : Prop := Tak w wx me g cap cur p ∧ Nd wx g E K
theorem TN.call {w wr w' : World} {me g cap cur : Nat} {p : Pk} {E : Nat → Nat} {K : Nat → Nat → Bool} (h : TN w wr me g cap cur p E K) (hb : Below wr.heap.size wr w') : TN w w' me g cap cur p E K := ⟨h.1.call hb, h.2.below hb h.2.lt⟩
theorem TN.drew {w wr : World} {me g cap cur : Nat} {p : Pk} {E : Nat → Nat} {K : Nat → Nat → Bool} (h : TN w wr me g cap cur p E K) : TN w wr.drew me g cap cur p E K := ⟨h.1.drew, h.2.turn rfl⟩
theorem TN.only {w wr w' : World} {me g cap cur : Nat} {p : Pk} {E F : Nat → Nat} {K L : Nat → Nat → Bool} (h : TN w wr me g cap cur p E K) (hb : Only g wr w') (hg : w.heap.size + 3 ≤ g) (hn : Nd w' g F L) : TN w w' me g cap cur p F L := ⟨h.1.only hb hg, hn⟩
theorem TN.put {w wr : World} {me g cap cur cur2 : Nat} {p : Pk} {E : Nat → Nat} {K : Nat → Nat → Bool} (h : TN w wr me g cap cur p E K) (hg : w.heap.size + 3 ≤ g) : TN w (wr.setRow w.heap.size (rvc me g cap cur2)) me g cap cur2 p E K :=
  ⟨h.1.put, h.2.turn (setRow_other _ _ _ _ (by omega))⟩
theorem TN.cur {w wr : World} {me g cap cur : Nat} {p : Pk} {E : Nat → Nat} {K : Nat → Nat → Bool} (h : TN w wr me g cap cur p E K) (hg : w.heap.size + 3 ≤ g) (x : Nat) : TN w (wr.setCell ⟨w.heap.size, 2, none⟩ (.int .u64 (x : Int))) me g cap x p E K :=
  ⟨h.1.cur x, h.2.turn (Below.heap_setCell _ _ _ _ (by show g ≠ w.heap.size; omega))⟩
theorem TN.fresh {w wr w' : World} {me g cap cur : Nat} {p : Pk} {E : Nat → Nat} {K : Nat → Nat → Bool} (h : TN w wr me g cap cur p E K) (hb : Below (g + 1) wr w') (hg : w.heap.size + 3 ≤ g) : TN w w' me g cap cur p E K :=
  ⟨⟨h.1.bel.trans (hb.mono (by omega)), (hb.block _ (by omega)).trans h.1.rv, (hb.block _ (by omega)).trans h.1.pk, (hb.block _ (by omega)).trans h.1.res⟩, h.2.turn (hb.block g (by omega))⟩
theorem TN.cells {w wr : World} {me g cap cur : Nat} {p : Pk} {E : Nat → Nat} {K : Nat → Nat → Bool} (h : TN w wr me g cap cur p E K) : wr.cell? ⟨w.heap.size, 0, none⟩ = some (.int .i64 (me : Int)) ∧ wr.cell? ⟨w.heap.size, 1, none⟩ = some (.slice (some ⟨g, 0, none⟩) 64 cap) ∧ wr.cell? ⟨w.heap.size, 2, none⟩ = some (.int .u64 (cur : Int)) := rv_cells h.1.rv
set_option maxRecDepth 100000 in
theorem upd_form (k f t : Int) (e c : Nat) (S : Nat → Bool) : Array.foldl (fun cs (x : Value × Nat) => cs.setIfInBounds (5 + x.snd) x.fst)
          (((((Tryz.zeroCells53.setIfInBounds 0 (Value.int IntKind.i64 k)).setIfInBounds 1 (Value.int IntKind.i64 f)).setIfInBounds 2 (Value.int IntKind.i64 t)).setIfInBounds 3 (Value.int IntKind.u64 e)).setIfInBounds 4 (Value.int IntKind.u64 c))
          (cellsOf S).zipIdx 0 (cellsOf S).size = pkCells ⟨k, f, t, e, c, S⟩ := by
  have hs : (cellsOf S).size = 256 := cellsOf_size S
  have hz := zsize
  have a := fun w : World => build_pk ⟨k, f, t, e, c, S⟩ w
  simp only [go_sem, hs] at a
  simp [hz] at a
  exact a
/-- the epochs, the slots and the greatest epoch behind a claim, and behind a raise -/
def cE (E : Nat → Nat) (n EP : Nat) : Nat → Nat := if E n ≤ EP then (fun m => if m = n then EP else E m) else E
end Go.Proofs.YtbfllifgmlkndaaGreatDoor

namespace Go.Proofs.YtbfllifgmlkndaaGreatDoor
open Go.RowKit
open Slot

set_option maxHeartbeats 4000000 in
set_option maxRecDepth 100000 in
theorem ptell_core (b e0 : Nat) (kind : Int) (v : Vw) (CX PC Z0 : Array Value) (w : World) (hV : VB w b v) (hc : CX.size = 256) (hz : Tryz.zeroCells53 = Z0) (z0 : Z0.size = 261) (pc : PC.size = 261) (op : PC.all (·.oneCell') = true)
    (hEp : ∀ W, VB W b v → Calls Tryz.prog 19 #[.pointer (some ⟨b, 0, none⟩), .int .i64 (v.self : Int)] W fun e w' => e = .returned (.int .u64 (e0 : Int)) ∧ w' = W)
    (hCl : ∀ W, VB W b v → Calls Tryz.prog 20 #[.pointer (some ⟨b, 0, none⟩), .int .i64 (v.self : Int)] W fun e w' => e = .returned (.agg CX) ∧ Below W.heap.size W w')
    (hbu : Array.foldl (fun cs (x : Value × Nat) => cs.setIfInBounds (5 + x.snd) x.fst) ((((Z0.setIfInBounds 0 (Value.int IntKind.i64 kind)).setIfInBounds 1 (Value.int IntKind.i64 v.self)).setIfInBounds 3 (Value.int IntKind.u64 e0)).setIfInBounds 4 (Value.int IntKind.u64 v.cur)) CX.zipIdx 0 256 = PC) :
    Calls Tryz.prog 75 #[.pointer (some ⟨b, 0, none⟩), .int .i64 kind] w fun e w' => e = .returned (.agg PC) ∧ Below w.heap.size w w' := by
  have HP0 : Hid ((w.alloc (.cells Z0 53)).heap[w.heap.size]? = some (.cells Z0 53 (0, 0))) := heap_alloc_new w _
  have HW0 := hid (below_alloc w (.cells Z0 53))
  have HV0 := hid (hV.below HW0.out hV.lt)
  have HV1 : Hid (VB (w.alloc (.cells Z0 53)).drew b v) := HV0.out.turn rfl
  have HNe : Hid (b ≠ w.heap.size) := by have := hV.lt; show b ≠ _; omega
  have HEp := hid hEp
  have HCl := hid hCl
  have hze : ¬ Z0 = #[] := fun e => by rw [e] at z0; cases z0
  have iP : (Tryz.prog.info? 53).map (·.size) = some PC.size := by rw [pc]; kernel_rfl
  have OP := hid op
  have zp : Z0.size = PC.size := z0.trans pc.symm
  clear hEp hCl op hV
  go_enter Tryz.func75, Tryz.ntmps75
  go_upto_region 1 with fail
  refine wp_region_noPanic ?_
  refine wp_region_held_drew (S := fun W => VB W b v) (by kernel_rfl) HV1.out (fun hHeld => ?_)
  refine wpAnyH_take (i := 0) (oi := { dst := some 5, op := Op.move (Operand.tmp 1), type := 3, pos := "view.go:89", after := #[], guard := none }) (v := .int .i64 kind) rfl (by kernel_rfl) (by kernel_rfl) (by kernel_rfl) (fun _ _ _ h => h) (Or.inl ⟨by rfl, fun wS hSw => ?_⟩) (by assumption) ?_
  · clear hHeld
    clear hSw
    go_simp
  try simp only [Act.put, List.setIfInBounds_toArray, List.set_cons_zero, List.set_cons_succ]
  refine wpAnyH_take (i := 1) (oi := { dst := some 6, op := Op.move (Operand.tmp 0), type := 50, pos := "view.go:89", after := #[], guard := none }) (v := .pointer (some ⟨b, 0, none⟩)) rfl (by kernel_rfl) (by kernel_rfl) (by kernel_rfl) (fun _ _ _ h => h) (Or.inl ⟨by rfl, fun wS hSw => ?_⟩) (by assumption) ?_
  · clear hHeld
    clear hSw
    go_simp
  try simp only [Act.put, List.setIfInBounds_toArray, List.set_cons_zero, List.set_cons_succ]
  refine wpAnyH_take (i := 2) (oi := { dst := some 7, op := Op.nilCheck (Operand.tmp 6), type := 0, pos := "view.go:89", after := #[{ on := 1, ground := Ground.data }], guard := none }) (v := .pointer (some ⟨b, 0, none⟩)) rfl (by kernel_rfl) (by kernel_rfl) (by kernel_rfl) (fun _ _ _ h => h) (Or.inl ⟨by rfl, fun wS hSw => ?_⟩) (by assumption) ?_
  · clear hHeld
    clear hSw
    go_simp
  try simp only [Act.put, List.setIfInBounds_toArray, List.set_cons_zero, List.set_cons_succ]
  refine wpAnyH_take (i := 3) (oi := { dst := some 8, op := Op.fieldAddr 109 (Operand.tmp 7) 0, type := 0, pos := "view.go:89", after := #[{ on := 2, ground := Ground.data }], guard := none }) (v := .pointer (some ⟨b, 0, none⟩)) rfl (by kernel_rfl) (by kernel_rfl) (by kernel_rfl) (fun _ _ _ h => h) (Or.inl ⟨by rfl, fun wS hSw => ?_⟩) (by assumption) ?_
  · clear hHeld
    clear hSw
    go_simp
  try simp only [Act.put, List.setIfInBounds_toArray, List.set_cons_zero, List.set_cons_succ]
  refine wpAnyH_take (i := 4) (oi := { dst := some 9, op := Op.load 3 (Operand.tmp 8), type := 3, pos := "view.go:89", after := #[{ on := 3, ground := Ground.data }], guard := none }) (v := .int .i64 (v.self : Int)) rfl (by kernel_rfl) (by kernel_rfl) (by kernel_rfl) (fun _ _ _ h => h) (Or.inl ⟨by rfl, fun wS hSw => ?_⟩) (by assumption) ?_
  · clear hHeld
    have c0 := VB.self_ hSw
    go_simp
  try simp only [Act.put, List.setIfInBounds_toArray, List.set_cons_zero, List.set_cons_succ]
  refine wpAnyH_take (i := 5) (oi := { dst := some 10, op := Op.move (Operand.tmp 0), type := 50, pos := "view.go:89", after := #[], guard := none }) (v := .pointer (some ⟨b, 0, none⟩)) rfl (by kernel_rfl) (by kernel_rfl) (by kernel_rfl) (fun _ _ _ h => h) (Or.inl ⟨by rfl, fun wS hSw => ?_⟩) (by assumption) ?_
  · clear hHeld
    clear hSw
    go_simp
  try simp only [Act.put, List.setIfInBounds_toArray, List.set_cons_zero, List.set_cons_succ]
  refine wpAnyH_take (i := 6) (oi := { dst := some 11, op := Op.move (Operand.tmp 0), type := 50, pos := "view.go:89", after := #[], guard := none }) (v := .pointer (some ⟨b, 0, none⟩)) rfl (by kernel_rfl) (by kernel_rfl) (by kernel_rfl) (fun _ _ _ h => h) (Or.inl ⟨by rfl, fun wS hSw => ?_⟩) (by assumption) ?_
  · clear hHeld
    clear hSw
    go_simp
  try simp only [Act.put, List.setIfInBounds_toArray, List.set_cons_zero, List.set_cons_succ]
  refine wpAnyH_take (i := 7) (oi := { dst := some 12, op := Op.nilCheck (Operand.tmp 11), type := 0, pos := "view.go:89", after := #[{ on := 6, ground := Ground.data }], guard := none }) (v := .pointer (some ⟨b, 0, none⟩)) rfl (by kernel_rfl) (by kernel_rfl) (by kernel_rfl) (fun _ _ _ h => h) (Or.inl ⟨by rfl, fun wS hSw => ?_⟩) (by assumption) ?_
  · clear hHeld
    clear hSw
    go_simp
  try simp only [Act.put, List.setIfInBounds_toArray, List.set_cons_zero, List.set_cons_succ]
  refine wpAnyH_take (i := 8) (oi := { dst := some 13, op := Op.fieldAddr 109 (Operand.tmp 12) 0, type := 0, pos := "view.go:89", after := #[{ on := 7, ground := Ground.data }], guard := none }) (v := .pointer (some ⟨b, 0, none⟩)) rfl (by kernel_rfl) (by kernel_rfl) (by kernel_rfl) (fun _ _ _ h => h) (Or.inl ⟨by rfl, fun wS hSw => ?_⟩) (by assumption) ?_
  · clear hHeld
    clear hSw
    go_simp
  try simp only [Act.put, List.setIfInBounds_toArray, List.set_cons_zero, List.set_cons_succ]
  refine wpAnyH_take (i := 9) (oi := { dst := some 14, op := Op.load 3 (Operand.tmp 13), type := 3, pos := "view.go:89", after := #[{ on := 8, ground := Ground.data }], guard := none }) (v := .int .i64 (v.self : Int)) rfl (by kernel_rfl) (by kernel_rfl) (by kernel_rfl) (fun _ _ _ h => h) (Or.inl ⟨by rfl, fun wS hSw => ?_⟩) (by assumption) ?_
  · clear hHeld
    have c0 := VB.self_ hSw
    go_simp
  try simp only [Act.put, List.setIfInBounds_toArray, List.set_cons_zero, List.set_cons_succ]
  refine wpAnyH_take (i := 11) (oi := { dst := some 16, op := Op.move (Operand.tmp 0), type := 50, pos := "view.go:89", after := #[], guard := none }) (v := .pointer (some ⟨b, 0, none⟩)) rfl (by kernel_rfl) (by kernel_rfl) (by kernel_rfl) (fun _ _ _ h => h) (Or.inl ⟨by rfl, fun wS hSw => ?_⟩) (by assumption) ?_
  · clear hHeld
    clear hSw
    go_simp
  try simp only [Act.put, List.setIfInBounds_toArray, List.set_cons_zero, List.set_cons_succ]
  refine wpAnyH_take (i := 12) (oi := { dst := some 17, op := Op.nilCheck (Operand.tmp 16), type := 0, pos := "view.go:89", after := #[{ on := 11, ground := Ground.data }], guard := none }) (v := .pointer (some ⟨b, 0, none⟩)) rfl (by kernel_rfl) (by kernel_rfl) (by kernel_rfl) (fun _ _ _ h => h) (Or.inl ⟨by rfl, fun wS hSw => ?_⟩) (by assumption) ?_
  · clear hHeld
    clear hSw
    go_simp
  try simp only [Act.put, List.setIfInBounds_toArray, List.set_cons_zero, List.set_cons_succ]
  refine wpAnyH_take (i := 13) (oi := { dst := some 18, op := Op.fieldAddr 109 (Operand.tmp 17) 3, type := 0, pos := "view.go:89", after := #[{ on := 12, ground := Ground.data }], guard := none }) (v := .pointer (some ⟨b, 16449, none⟩)) rfl (by kernel_rfl) (by kernel_rfl) (by kernel_rfl) (fun _ _ _ h => h) (Or.inl ⟨by rfl, fun wS hSw => ?_⟩) (by assumption) ?_
  · clear hHeld
    clear hSw
    go_simp
  try simp only [Act.put, List.setIfInBounds_toArray, List.set_cons_zero, List.set_cons_succ]
  refine wpAnyH_take (i := 14) (oi := { dst := some 19, op := Op.load 22 (Operand.tmp 18), type := 22, pos := "view.go:89", after := #[{ on := 13, ground := Ground.data }], guard := none }) (v := .int .u64 (v.cur : Int)) rfl (by kernel_rfl) (by kernel_rfl) (by kernel_rfl) (fun _ _ _ h => h) (Or.inl ⟨by rfl, fun wS hSw => ?_⟩) (by assumption) ?_
  · clear hHeld
    have c0 := VB.cur_ hSw
    go_simp
  try simp only [Act.put, List.setIfInBounds_toArray, List.set_cons_zero, List.set_cons_succ]
  refine wpAnyH_take (i := 15) (oi := { dst := some 20, op := Op.move (Operand.tmp 0), type := 50, pos := "view.go:89", after := #[], guard := none }) (v := .pointer (some ⟨b, 0, none⟩)) rfl (by kernel_rfl) (by kernel_rfl) (by kernel_rfl) (fun _ _ _ h => h) (Or.inl ⟨by rfl, fun wS hSw => ?_⟩) (by assumption) ?_
  · clear hHeld
    clear hSw
    go_simp
  try simp only [Act.put, List.setIfInBounds_toArray, List.set_cons_zero, List.set_cons_succ]
  refine wpAnyH_take (i := 16) (oi := { dst := some 21, op := Op.move (Operand.tmp 0), type := 50, pos := "view.go:89", after := #[], guard := none }) (v := .pointer (some ⟨b, 0, none⟩)) rfl (by kernel_rfl) (by kernel_rfl) (by kernel_rfl) (fun _ _ _ h => h) (Or.inl ⟨by rfl, fun wS hSw => ?_⟩) (by assumption) ?_
  · clear hHeld
    clear hSw
    go_simp
  try simp only [Act.put, List.setIfInBounds_toArray, List.set_cons_zero, List.set_cons_succ]
  refine wpAnyH_take (i := 17) (oi := { dst := some 22, op := Op.nilCheck (Operand.tmp 21), type := 0, pos := "view.go:89", after := #[{ on := 16, ground := Ground.data }], guard := none }) (v := .pointer (some ⟨b, 0, none⟩)) rfl (by kernel_rfl) (by kernel_rfl) (by kernel_rfl) (fun _ _ _ h => h) (Or.inl ⟨by rfl, fun wS hSw => ?_⟩) (by assumption) ?_
  · clear hHeld
    clear hSw
    go_simp
  try simp only [Act.put, List.setIfInBounds_toArray, List.set_cons_zero, List.set_cons_succ]
  refine wpAnyH_take (i := 18) (oi := { dst := some 23, op := Op.fieldAddr 109 (Operand.tmp 22) 0, type := 0, pos := "view.go:89", after := #[{ on := 17, ground := Ground.data }], guard := none }) (v := .pointer (some ⟨b, 0, none⟩)) rfl (by kernel_rfl) (by kernel_rfl) (by kernel_rfl) (fun _ _ _ h => h) (Or.inl ⟨by rfl, fun wS hSw => ?_⟩) (by assumption) ?_
  · clear hHeld
    clear hSw
    go_simp
  try simp only [Act.put, List.setIfInBounds_toArray, List.set_cons_zero, List.set_cons_succ]
  refine wpAnyH_take (i := 19) (oi := { dst := some 24, op := Op.load 3 (Operand.tmp 23), type := 3, pos := "view.go:89", after := #[{ on := 18, ground := Ground.data }], guard := none }) (v := .int .i64 (v.self : Int)) rfl (by kernel_rfl) (by kernel_rfl) (by kernel_rfl) (fun _ _ _ h => h) (Or.inl ⟨by rfl, fun wS hSw => ?_⟩) (by assumption) ?_
  · clear hHeld
    have c0 := VB.self_ hSw
    go_simp
  try simp only [Act.put, List.setIfInBounds_toArray, List.set_cons_zero, List.set_cons_succ]
  refine wpAnyH_ready (rs := [10]) (by kernel_rfl) (by simp) ?_
  refine AllReadyH.cons (o := { dst := some 15, op := Op.call { callee := Callee.value (Operand.func 19), args := #[Operand.tmp 10, Operand.tmp 14], argTypes := #[50, 3] }, type := 22, pos := "view.go:92", after := #[{ on := 5, ground := Ground.data }, { on := 9, ground := Ground.data }], guard := none }) rfl (fun K hK => ?_) AllReadyH.nil
  clear hHeld
  go_simp
  refine (HEp.out _ HV1.out).mono ?_; rintro e wz ⟨rfl, rfl⟩
  go_wp2_with fail
  refine hK.out _ _ HV1.out (fun hHeld => ?_)
  clear hK K
  try simp only [Act.put, List.setIfInBounds_toArray, List.set_cons_zero, List.set_cons_succ]
  refine wpAnyH_ready (rs := [20]) (by kernel_rfl) (by simp) ?_
  refine AllReadyH.cons (o := { dst := some 25, op := Op.call { callee := Callee.value (Operand.func 20), args := #[Operand.tmp 20, Operand.tmp 24], argTypes := #[50, 3] }, type := 24, pos := "view.go:94", after := #[{ on := 15, ground := Ground.data }, { on := 19, ground := Ground.data }, { on := 10, ground := Ground.chain }], guard := none }) rfl (fun K hK => ?_) AllReadyH.nil
  clear hHeld
  go_simp
  refine (HCl.out _ HV1.out).mono ?_; rintro e w3 ⟨rfl, hb⟩
  have HV3 := hid (HV1.out.below hb HV1.out.lt)
  have HP3 : Hid (w3.heap[w.heap.size]? = some (.cells Z0 53 (0, 0))) := (hb.block _ (by show w.heap.size < (w.alloc _).heap.size; simp)).trans HP0.out
  have HW3 := hid (HW0.out.drew.trans (hb.mono HW0.out.size))
  clear hb
  go_wp2_with fail
  refine hK.out _ _ HV3.out (fun hHeld => ?_)
  clear hK K
  try simp only [Act.put, List.setIfInBounds_toArray, List.set_cons_zero, List.set_cons_succ]
  refine wpAnyH_take (i := 21) (oi := { dst := some 26, op := Op.build 53 #[(0, Operand.tmp 5), (1, Operand.tmp 9), (3, Operand.tmp 15), (4, Operand.tmp 19), (5, Operand.tmp 25)], type := 53, pos := "view.go:89", after := #[{ on := 0, ground := Ground.data }, { on := 4, ground := Ground.data }, { on := 10, ground := Ground.data }, { on := 14, ground := Ground.data }, { on := 20, ground := Ground.data }], guard := none }) (v := .agg PC) rfl (by kernel_rfl) (by kernel_rfl) (by kernel_rfl) (fun _ _ _ h => h) (Or.inl ⟨by rfl, fun wS hSw => ?_⟩) (by assumption) ?_
  · clear hHeld
    clear hSw
    go_simp
  try simp only [Act.put, List.setIfInBounds_toArray, List.set_cons_zero, List.set_cons_succ]
  refine wpAnyH_ready (rs := [22]) (by kernel_rfl) (by simp) ?_
  refine AllReadyH.cons (o := { dst := none, op := Op.store 53 (Operand.tmp 4) (Operand.tmp 26), type := 0, pos := "view.go:89", after := #[{ on := 21, ground := Ground.data }, { on := 20, ground := Ground.chain }, { on := 0, ground := Ground.phase }, { on := 1, ground := Ground.phase }, { on := 2, ground := Ground.phase }, { on := 3, ground := Ground.phase }, { on := 4, ground := Ground.phase }, { on := 5, ground := Ground.phase }, { on := 6, ground := Ground.phase }, { on := 7, ground := Ground.phase }, { on := 8, ground := Ground.phase }, { on := 9, ground := Ground.phase }, { on := 10, ground := Ground.phase }, { on := 11, ground := Ground.phase }, { on := 12, ground := Ground.phase }, { on := 13, ground := Ground.phase }, { on := 14, ground := Ground.phase }, { on := 15, ground := Ground.phase }, { on := 16, ground := Ground.phase }, { on := 17, ground := Ground.phase }, { on := 18, ground := Ground.phase }, { on := 19, ground := Ground.phase }, { on := 20, ground := Ground.phase }, { on := 21, ground := Ground.phase }], guard := none }) rfl (fun K hK => ?_) AllReadyH.nil
  rw [if_pos (by rfl)]
  refine wp_store_row 53 _ _ rfl w.heap.size PC rfl rfl 53 Z0 HP3.out iP zp OP.out ?_
  have HV4 : Hid (VB (w3.setRow w.heap.size PC) b v) := HV3.out.turn (setRow_other _ _ _ _ HNe.out)
  refine hK.out _ _ HV4.out (fun hHeld => ?_)
  clear hK K
  simp only [Act.put]
  refine wpAnyH_done (by kernel_rfl) ?_ _
  refine NoPanic.normal ?_
  clear hHeld
  go_wp2_with fail
  refine bodyPost_ret (v := .agg PC) ?_ rfl ?_
  · exact results_cell_row rfl _ _ w.heap.size 53 PC (0, 0) _ rfl (setRow_heap _ _ _ _ _ _ HP3.out) Tryz.underlying53 rfl iP
  · exact ⟨rfl, below_setRow HW3.out (Nat.le_refl _) _⟩

set_option maxHeartbeats 4000000 in
set_option maxRecDepth 100000 in
theorem pupdate_core (b e0 m : Nat) (v : Vw) (CX PC Z0 : Array Value) (w : World) (hV : VB w b v) (hc : CX.size = 256) (hz : Tryz.zeroCells53 = Z0) (z0 : Z0.size = 261) (pc : PC.size = 261) (op : PC.all (·.oneCell') = true)
    (hEp : ∀ W, VB W b v → Calls Tryz.prog 19 #[.pointer (some ⟨b, 0, none⟩), .int .i64 (m : Int)] W fun e w' => e = .returned (.int .u64 (e0 : Int)) ∧ w' = W)
    (hCl : ∀ W, VB W b v → Calls Tryz.prog 20 #[.pointer (some ⟨b, 0, none⟩), .int .i64 (m : Int)] W fun e w' => e = .returned (.agg CX) ∧ Below W.heap.size W w')
    (hbu : Array.foldl (fun cs (x : Value × Nat) => cs.setIfInBounds (5 + x.snd) x.fst) (((((Z0.setIfInBounds 0 (Value.int IntKind.i64 3)).setIfInBounds 1 (Value.int IntKind.i64 v.self)).setIfInBounds 2 (Value.int IntKind.i64 m)).setIfInBounds 3 (Value.int IntKind.u64 e0)).setIfInBounds 4 (Value.int IntKind.u64 v.cur)) CX.zipIdx 0 256 = PC) :
    Calls Tryz.prog 89 #[.pointer (some ⟨b, 0, none⟩), .int .i64 (m : Int)] w fun e w' => e = .returned (.agg PC) ∧ Below w.heap.size w w' := by
  have HP0 : Hid ((w.alloc (.cells Z0 53)).heap[w.heap.size]? = some (.cells Z0 53 (0, 0))) := heap_alloc_new w _
  have HW0 := hid (below_alloc w (.cells Z0 53))
  have HV0 := hid (hV.below HW0.out hV.lt)
  have HV1 : Hid (VB (w.alloc (.cells Z0 53)).drew b v) := HV0.out.turn rfl
  have HNe : Hid (b ≠ w.heap.size) := by have := hV.lt; show b ≠ _; omega
  have HEp := hid hEp
  have HCl := hid hCl
  have hze : ¬ Z0 = #[] := fun e => by rw [e] at z0; cases z0
  have iP : (Tryz.prog.info? 53).map (·.size) = some PC.size := by rw [pc]; kernel_rfl
  have OP := hid op
  have zp : Z0.size = PC.size := z0.trans pc.symm
  clear hEp hCl op hV
  go_enter Tryz.func89, Tryz.ntmps89
  go_upto_region 1 with fail
  refine wp_region_noPanic ?_
  refine wp_region_held_drew (S := fun W => VB W b v) (by kernel_rfl) HV1.out (fun hHeld => ?_)
  refine wpAnyH_take (i := 0) (oi := { dst := some 5, op := Op.move (Operand.tmp 0), type := 50, pos := "view.go:205", after := #[], guard := none }) (v := .pointer (some ⟨b, 0, none⟩)) rfl (by kernel_rfl) (by kernel_rfl) (by kernel_rfl) (fun _ _ _ h => h) (Or.inl ⟨by rfl, fun wS hSw => ?_⟩) (by assumption) ?_
  · clear hHeld
    clear hSw
    go_simp
  try simp only [Act.put, List.setIfInBounds_toArray, List.set_cons_zero, List.set_cons_succ]
  refine wpAnyH_take (i := 1) (oi := { dst := some 6, op := Op.nilCheck (Operand.tmp 5), type := 0, pos := "view.go:205", after := #[{ on := 0, ground := Ground.data }], guard := none }) (v := .pointer (some ⟨b, 0, none⟩)) rfl (by kernel_rfl) (by kernel_rfl) (by kernel_rfl) (fun _ _ _ h => h) (Or.inl ⟨by rfl, fun wS hSw => ?_⟩) (by assumption) ?_
  · clear hHeld
    clear hSw
    go_simp
  try simp only [Act.put, List.setIfInBounds_toArray, List.set_cons_zero, List.set_cons_succ]
  refine wpAnyH_take (i := 2) (oi := { dst := some 7, op := Op.fieldAddr 109 (Operand.tmp 6) 0, type := 0, pos := "view.go:205", after := #[{ on := 1, ground := Ground.data }], guard := none }) (v := .pointer (some ⟨b, 0, none⟩)) rfl (by kernel_rfl) (by kernel_rfl) (by kernel_rfl) (fun _ _ _ h => h) (Or.inl ⟨by rfl, fun wS hSw => ?_⟩) (by assumption) ?_
  · clear hHeld
    clear hSw
    go_simp
  try simp only [Act.put, List.setIfInBounds_toArray, List.set_cons_zero, List.set_cons_succ]
  refine wpAnyH_take (i := 3) (oi := { dst := some 8, op := Op.load 3 (Operand.tmp 7), type := 3, pos := "view.go:205", after := #[{ on := 2, ground := Ground.data }], guard := none }) (v := .int .i64 (v.self : Int)) rfl (by kernel_rfl) (by kernel_rfl) (by kernel_rfl) (fun _ _ _ h => h) (Or.inl ⟨by rfl, fun wS hSw => ?_⟩) (by assumption) ?_
  · clear hHeld
    have c0 := VB.self_ hSw
    go_simp
  try simp only [Act.put, List.setIfInBounds_toArray, List.set_cons_zero, List.set_cons_succ]
  refine wpAnyH_take (i := 4) (oi := { dst := some 9, op := Op.move (Operand.tmp 1), type := 3, pos := "view.go:205", after := #[], guard := none }) (v := .int .i64 (m : Int)) rfl (by kernel_rfl) (by kernel_rfl) (by kernel_rfl) (fun _ _ _ h => h) (Or.inl ⟨by rfl, fun wS hSw => ?_⟩) (by assumption) ?_
  · clear hHeld
    clear hSw
    go_simp
  try simp only [Act.put, List.setIfInBounds_toArray, List.set_cons_zero, List.set_cons_succ]
  refine wpAnyH_take (i := 5) (oi := { dst := some 10, op := Op.move (Operand.tmp 0), type := 50, pos := "view.go:205", after := #[], guard := none }) (v := .pointer (some ⟨b, 0, none⟩)) rfl (by kernel_rfl) (by kernel_rfl) (by kernel_rfl) (fun _ _ _ h => h) (Or.inl ⟨by rfl, fun wS hSw => ?_⟩) (by assumption) ?_
  · clear hHeld
    clear hSw
    go_simp
  try simp only [Act.put, List.setIfInBounds_toArray, List.set_cons_zero, List.set_cons_succ]
  refine wpAnyH_take (i := 6) (oi := { dst := some 11, op := Op.move (Operand.tmp 1), type := 3, pos := "view.go:205", after := #[], guard := none }) (v := .int .i64 (m : Int)) rfl (by kernel_rfl) (by kernel_rfl) (by kernel_rfl) (fun _ _ _ h => h) (Or.inl ⟨by rfl, fun wS hSw => ?_⟩) (by assumption) ?_
  · clear hHeld
    clear hSw
    go_simp
  try simp only [Act.put, List.setIfInBounds_toArray, List.set_cons_zero, List.set_cons_succ]
  refine wpAnyH_take (i := 8) (oi := { dst := some 13, op := Op.move (Operand.tmp 0), type := 50, pos := "view.go:205", after := #[], guard := none }) (v := .pointer (some ⟨b, 0, none⟩)) rfl (by kernel_rfl) (by kernel_rfl) (by kernel_rfl) (fun _ _ _ h => h) (Or.inl ⟨by rfl, fun wS hSw => ?_⟩) (by assumption) ?_
  · clear hHeld
    clear hSw
    go_simp
  try simp only [Act.put, List.setIfInBounds_toArray, List.set_cons_zero, List.set_cons_succ]
  refine wpAnyH_take (i := 9) (oi := { dst := some 14, op := Op.nilCheck (Operand.tmp 13), type := 0, pos := "view.go:205", after := #[{ on := 8, ground := Ground.data }], guard := none }) (v := .pointer (some ⟨b, 0, none⟩)) rfl (by kernel_rfl) (by kernel_rfl) (by kernel_rfl) (fun _ _ _ h => h) (Or.inl ⟨by rfl, fun wS hSw => ?_⟩) (by assumption) ?_
  · clear hHeld
    clear hSw
    go_simp
  try simp only [Act.put, List.setIfInBounds_toArray, List.set_cons_zero, List.set_cons_succ]
  refine wpAnyH_take (i := 10) (oi := { dst := some 15, op := Op.fieldAddr 109 (Operand.tmp 14) 3, type := 0, pos := "view.go:205", after := #[{ on := 9, ground := Ground.data }], guard := none }) (v := .pointer (some ⟨b, 16449, none⟩)) rfl (by kernel_rfl) (by kernel_rfl) (by kernel_rfl) (fun _ _ _ h => h) (Or.inl ⟨by rfl, fun wS hSw => ?_⟩) (by assumption) ?_
  · clear hHeld
    clear hSw
    go_simp
  try simp only [Act.put, List.setIfInBounds_toArray, List.set_cons_zero, List.set_cons_succ]
  refine wpAnyH_take (i := 11) (oi := { dst := some 16, op := Op.load 22 (Operand.tmp 15), type := 22, pos := "view.go:205", after := #[{ on := 10, ground := Ground.data }], guard := none }) (v := .int .u64 (v.cur : Int)) rfl (by kernel_rfl) (by kernel_rfl) (by kernel_rfl) (fun _ _ _ h => h) (Or.inl ⟨by rfl, fun wS hSw => ?_⟩) (by assumption) ?_
  · clear hHeld
    have c0 := VB.cur_ hSw
    go_simp
  try simp only [Act.put, List.setIfInBounds_toArray, List.set_cons_zero, List.set_cons_succ]
  refine wpAnyH_take (i := 12) (oi := { dst := some 17, op := Op.move (Operand.tmp 0), type := 50, pos := "view.go:205", after := #[], guard := none }) (v := .pointer (some ⟨b, 0, none⟩)) rfl (by kernel_rfl) (by kernel_rfl) (by kernel_rfl) (fun _ _ _ h => h) (Or.inl ⟨by rfl, fun wS hSw => ?_⟩) (by assumption) ?_
  · clear hHeld
    clear hSw
    go_simp
  try simp only [Act.put, List.setIfInBounds_toArray, List.set_cons_zero, List.set_cons_succ]
  refine wpAnyH_take (i := 13) (oi := { dst := some 18, op := Op.move (Operand.tmp 1), type := 3, pos := "view.go:205", after := #[], guard := none }) (v := .int .i64 (m : Int)) rfl (by kernel_rfl) (by kernel_rfl) (by kernel_rfl) (fun _ _ _ h => h) (Or.inl ⟨by rfl, fun wS hSw => ?_⟩) (by assumption) ?_
  · clear hHeld
    clear hSw
    go_simp
  try simp only [Act.put, List.setIfInBounds_toArray, List.set_cons_zero, List.set_cons_succ]
  refine wpAnyH_ready (rs := [7]) (by kernel_rfl) (by simp) ?_
  refine AllReadyH.cons (o := { dst := some 12, op := Op.call { callee := Callee.value (Operand.func 19), args := #[Operand.tmp 10, Operand.tmp 11], argTypes := #[50, 3] }, type := 22, pos := "view.go:209", after := #[{ on := 5, ground := Ground.data }, { on := 6, ground := Ground.data }], guard := none }) rfl (fun K hK => ?_) AllReadyH.nil
  clear hHeld
  go_simp
  refine (HEp.out _ HV1.out).mono ?_; rintro e wz ⟨rfl, rfl⟩
  go_wp2_with fail
  refine hK.out _ _ HV1.out (fun hHeld => ?_)
  clear hK K
  try simp only [Act.put, List.setIfInBounds_toArray, List.set_cons_zero, List.set_cons_succ]
  refine wpAnyH_ready (rs := [14]) (by kernel_rfl) (by simp) ?_
  refine AllReadyH.cons (o := { dst := some 19, op := Op.call { callee := Callee.value (Operand.func 20), args := #[Operand.tmp 17, Operand.tmp 18], argTypes := #[50, 3] }, type := 24, pos := "view.go:211", after := #[{ on := 12, ground := Ground.data }, { on := 13, ground := Ground.data }, { on := 7, ground := Ground.chain }], guard := none }) rfl (fun K hK => ?_) AllReadyH.nil
  clear hHeld
  go_simp
  refine (HCl.out _ HV1.out).mono ?_; rintro e w3 ⟨rfl, hb⟩
  have HV3 := hid (HV1.out.below hb HV1.out.lt)
  have HP3 : Hid (w3.heap[w.heap.size]? = some (.cells Z0 53 (0, 0))) := (hb.block _ (by show w.heap.size < (w.alloc _).heap.size; simp)).trans HP0.out
  have HW3 := hid (HW0.out.drew.trans (hb.mono HW0.out.size))
  clear hb
  go_wp2_with fail
  refine hK.out _ _ HV3.out (fun hHeld => ?_)
  clear hK K
  try simp only [Act.put, List.setIfInBounds_toArray, List.set_cons_zero, List.set_cons_succ]
  refine wpAnyH_take (i := 15) (oi := { dst := some 20, op := Op.build 53 #[(0, Operand.const (Value.int IntKind.i64 3)), (1, Operand.tmp 8), (2, Operand.tmp 9), (3, Operand.tmp 12), (4, Operand.tmp 16), (5, Operand.tmp 19)], type := 53, pos := "view.go:205", after := #[{ on := 3, ground := Ground.data }, { on := 4, ground := Ground.data }, { on := 7, ground := Ground.data }, { on := 11, ground := Ground.data }, { on := 14, ground := Ground.data }], guard := none }) (v := .agg PC) rfl (by kernel_rfl) (by kernel_rfl) (by kernel_rfl) (fun _ _ _ h => h) (Or.inl ⟨by rfl, fun wS hSw => ?_⟩) (by assumption) ?_
  · clear hHeld
    clear hSw
    go_simp
  try simp only [Act.put, List.setIfInBounds_toArray, List.set_cons_zero, List.set_cons_succ]
  refine wpAnyH_ready (rs := [16]) (by kernel_rfl) (by simp) ?_
  refine AllReadyH.cons (o := { dst := none, op := Op.store 53 (Operand.tmp 4) (Operand.tmp 20), type := 0, pos := "view.go:205", after := #[{ on := 15, ground := Ground.data }, { on := 14, ground := Ground.chain }, { on := 0, ground := Ground.phase }, { on := 1, ground := Ground.phase }, { on := 2, ground := Ground.phase }, { on := 3, ground := Ground.phase }, { on := 4, ground := Ground.phase }, { on := 5, ground := Ground.phase }, { on := 6, ground := Ground.phase }, { on := 7, ground := Ground.phase }, { on := 8, ground := Ground.phase }, { on := 9, ground := Ground.phase }, { on := 10, ground := Ground.phase }, { on := 11, ground := Ground.phase }, { on := 12, ground := Ground.phase }, { on := 13, ground := Ground.phase }, { on := 14, ground := Ground.phase }, { on := 15, ground := Ground.phase }], guard := none }) rfl (fun K hK => ?_) AllReadyH.nil
  rw [if_pos (by rfl)]
  refine wp_store_row 53 _ _ rfl w.heap.size PC rfl rfl 53 Z0 HP3.out iP zp OP.out ?_
  have HV4 : Hid (VB (w3.setRow w.heap.size PC) b v) := HV3.out.turn (setRow_other _ _ _ _ HNe.out)
  refine hK.out _ _ HV4.out (fun hHeld => ?_)
  clear hK K
  simp only [Act.put]
  refine wpAnyH_done (by kernel_rfl) ?_ _
  refine NoPanic.normal ?_
  clear hHeld
  go_wp2_with fail
  refine bodyPost_ret (v := .agg PC) ?_ rfl ?_
  · exact results_cell_row rfl _ _ w.heap.size 53 PC (0, 0) _ rfl (setRow_heap _ _ _ _ _ _ HP3.out) Tryz.underlying53 rfl iP
  · exact ⟨rfl, below_setRow HW3.out (Nat.le_refl _) _⟩


end Go.Proofs.YtbfllifgmlkndaaGreatDoor
