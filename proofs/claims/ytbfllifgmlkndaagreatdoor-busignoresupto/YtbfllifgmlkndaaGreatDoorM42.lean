/- BlDo0, BlDo1. -/
import Derived.Test.YtbfllifgmlkndaaGreatDoorM41
namespace Go.Proofs.YtbfllifgmlkndaaGreatDoor
open Go.RowKit Go.Shelf
open Slot

set_option maxHeartbeats 4000000 in
set_option maxRecDepth 100000 in
theorem does0 (B b vb : Nat) (F : Nat → Prop) (v : Vw) (O : List (Int × Bs)) (me g cap B1 : Nat) (v2 : Vw) (u : Value) (O2 : List (Int × Bs)) (o : OpB) (w : World) (hk : o.kind = 0) (h : Dk B b vb F v O me g B1 v2 u O2 w) (_hsl : o.s.length ≤ 1048576) :
    Calls Tryz.prog 11 #[.pointer (some ⟨b, 0, none⟩), .agg (rbc me g cap v2.cur u), .agg (opbCells o)] w (DoesP B b vb F v O me v2 O2 o w) := by
  have HDf := hid (df_new w (rbc me g cap v2.cur u) (opbCells o))
  have HW0 := hid (df_below w (rbc me g cap v2.cur u) (opbCells o))
  have HDk := hid (h.call HW0.out)
  have HLt := hid h.bus.lt
  have HTy := hid h.ty
  have HDoc := hid (fun W (k : Dk B b vb F v O me g B1 v2 u O2 W) => ftell_any me g cap v2.cur B1 v2 u O2 1 o.n W k.me_ (by have := k.ok2.self; have := k.me_; omega) rfl (k.ok2.mono (by decide)) k.nd k.out (by have := k.ol2; omega))
  have HPr := hid (fun W (k : Dk B b vb F v O me g B1 v2 u O2 W) => uping_any B b vb F v O o.n W k.bus k.env k.b7 k.ok.self (by have := k.ol; omega))
  have HSame : Hid (v2 = v → O2 = O → (tellE v2 o.n) = (tellE v o.n) ∧ (v2) = (v) ∧ (O2 ++ tellO v2 1 o.n) = (O ++ tellO v 1 o.n)) := fun h1 h2 => by subst h1 h2; exact ⟨rfl, rfl, rfl⟩
  have HFin : Hid (∀ RC c w' F', BB B w' F' b vb (v) (O ++ tellO v 1 o.n) → Kp F F' w w' → (v2 = v → O2 = O → c = true ∧ DB w' me RC (v) (O ++ tellO v 1 o.n)) → DoesP B b vb F v O me v2 O2 o w (.returned (.tuple #[.agg RC, .bool c])) w') := fun RC c w' F' h1 h2 h3 => does_fin (by unfold bV; simp [hk]) (by unfold bO; simp [hk]) h1 h2 h3
  have HOc := hid (opb_cells o)
  rw [hk] at HOc
  have iRB := infoRB (C := rbc me g cap v2.cur u) rfl
  have HRBe := hid (rfl : rbc me g cap v2.cur u = rbc me g cap v2.cur u)
  obtain ⟨RB, hRB⟩ : ∃ C, rbc me g cap v2.cur u = C := ⟨_, rfl⟩
  have HRB := hid hRB
  rw [hRB] at HDf HW0 HDk HDoc iRB ⊢
  obtain ⟨OC, hOC⟩ : ∃ C, opbCells o = C := ⟨_, rfl⟩
  rw [hOC] at HDf HW0 HDk HOc ⊢
  obtain ⟨aD, haD⟩ : ∃ c, tellE v2 o.n = c := ⟨_, rfl⟩
  obtain ⟨aP, haP⟩ : ∃ c, tellE v o.n = c := ⟨_, rfl⟩
  obtain ⟨OD, hOD⟩ : ∃ c, O2 ++ tellO v2 1 o.n = c := ⟨_, rfl⟩
  obtain ⟨OP, hOP⟩ : ∃ c, O ++ tellO v 1 o.n = c := ⟨_, rfl⟩
  rw [haD, hOD] at HSame
  rw [haP, hOP] at HSame
  rw [hOP] at HFin
  rw [haD, hOD] at HDoc
  rw [haP, hOP] at HPr
  obtain ⟨cc, hcc⟩ : ∃ c, (aP == aD) = c := ⟨_, rfl⟩
  have HC := hid hcc
  clear h _hsl hRB hOC haD haP hOD hOP HRBe hcc
  go_enter Tryz.func11, Tryz.ntmps11
  go_upto_region 1 with fail
  generalize ((w.alloc (.cells RB 41)).alloc (.cells OC 43)).alloc (.cells #[.int .i64 0, .slice none 0 0, .int .u64 0, .slice none 0 0] 41) = w1 at *
  obtain ⟨k0, k1, k2, k3, k4⟩ := HOc.out w1 _ HDf.out.o
  go_upto_region 3 with fail
  have HDoc1 := hid (HDoc.out w1 HDk.out)
  have HRb1 := hid HDf.out.r
  clear HDoc
  go_wp2_with (refine wpList_load_row rfl 41 _ rfl w.heap.size rfl 41 _ (0, 0) _ HRb1.out Tryz.underlying41 rfl iRB ?_)
  refine HDoc1.out.mono ?_; rintro r w3 ⟨g3, cap3, u3, B3, rfl, hN3, hg3, hO3, hb3⟩
  have hD3 : DB w3 me (rbc me g3 cap3 v2.cur u3) v2 OD := ⟨g3, cap3, B3, u3, rfl, hN3, hO3⟩
  have HDf3 := hid (HDf.out.below hb3)
  have HDk3 := hid (HDk.out.call hb3)
  have HW3 := hid (HW0.out.trans (hb3.mono HW0.out.size))
  obtain ⟨hRCs, oRC, iRC⟩ := hD3.one
  have HD3 := hid hD3
  obtain ⟨RC, hRC⟩ : ∃ C, rbc me g3 cap3 v2.cur u3 = C := ⟨_, rfl⟩
  rw [hRC] at HD3 iRC hRCs oRC ⊢
  clear hN3 hg3 hO3 hb3 HDoc1 HRb1 HDf HDk HW0 k0 k1 k2 k3 k4 hRC hD3
  have iRl : (Tryz.prog.info? 41).map (·.size) = some RC.toList.length := by rw [Array.length_toList]; exact iRC
  have z4 : (#[.int .i64 0, .slice none 0 0, .int .u64 0, .slice none 0 0] : Array Value).size = RC.size := hRCs.symm
  have HS4 := hid hRCs
  have HZ4 := hid (heap_alloc_new w3 (.cells #[.int .i64 0, .slice none 0 0, .int .u64 0, .slice none 0 0] 41))
  have hb4 := below_setRow (g := w3.heap.size) (below_alloc w3 (.cells #[.int .i64 0, .slice none 0 0, .int .u64 0, .slice none 0 0] 41)) (Nat.le_refl _) RC
  have HSb4 := hid (setRow_heap _ _ _ RC _ _ HZ4.out)
  have HD4 := hid (HD3.out.call hb4)
  have HDf4 := hid (HDf3.out.below hb4)
  have HDk4 := hid (HDk3.out.call hb4)
  have HW4 := hid (HW3.out.trans (hb4.mono HW3.out.size))
  have HSbx : Hid (w.heap.size ≤ w3.heap.size) := HW3.out.size
  have HNe : Hid (w3.heap.size ≠ w.heap.size + 2) := fun e => by have h1 := (Array.getElem?_eq_some_iff.1 HDf3.out.s).1; omega
  clear hb4 HD3 HDf3 HDk3 HW3 hRCs
  go_upto_region 4 with (refine wpList_store_row rfl 41 _ _ rfl w3.heap.size RC rfl rfl 41 _ HZ4.out iRC z4 oRC ?_)
  clear HZ4
  generalize (w3.alloc (.cells #[.int .i64 0, .slice none 0 0, .int .u64 0, .slice none 0 0] 41)).setRow w3.heap.size RC = w4 at *
  generalize w3.heap.size = sb at *
  have HS0 : Hid (∀ W : World, W.heap[sb]? = some (.cells RC 41 (0, 0)) → W.heap[w.heap.size + 1]? = some (.cells OC 43 (0, 0)) → W.rangeAt sb 0 RC.toList ∧ W.cell? ⟨w.heap.size + 1, 1, none⟩ = some (.int .i64 o.n)) := fun W h1 h2 => by
    obtain ⟨q0, q1, q2, q3, q4⟩ := HOc.out W _ h2
    exact ⟨row_range h1, q1⟩
  have hs0 := HS0.out w4 HSb4.out HDf4.out.o
  have HPr4 := hid (HPr.out w4.drew HDk4.out.drew)
  clear HPr HOc
  refine wp_region_noPanic ?_
  refine wp_region_held_drew (S := fun W => W.rangeAt sb 0 RC.toList ∧ W.cell? ⟨w.heap.size + 1, 1, none⟩ = some (.int .i64 o.n)) (by kernel_rfl) hs0 (fun hHeld => ?_)
  clear hs0
  have u41 := Tryz.underlying41
  refine wpAnyH_take (i := 0) (oi := { dst := some 30, op := Op.load 41 (Operand.tmp 8), type := 41, pos := "law.go:82", after := #[], guard := none }) (v := .agg RC) rfl (by kernel_rfl) (by kernel_rfl) (by kernel_rfl) (fun _ _ _ h => h) (yieldsIf_load_arr Array.toArray_toList (by rfl) _ _ rfl _ _ rfl (fun _ h => h.1) u41 rfl iRl) (by assumption) ?_
  try simp only [Act.put, List.setIfInBounds_toArray, List.set_cons_zero, List.set_cons_succ]
  refine wpAnyH_take (i := 1) (oi := { dst := some 31, op := Op.move (Operand.tmp 0), type := 28, pos := "law.go:82", after := #[], guard := none }) (v := .pointer (some ⟨b, 0, none⟩)) rfl (by kernel_rfl) (by kernel_rfl) (by kernel_rfl) (fun _ _ _ h => h) (Or.inl ⟨by rfl, fun wS hSw => ?_⟩) (by assumption) ?_
  · clear hHeld
    clear hSw
    go_simp
  try simp only [Act.put, List.setIfInBounds_toArray, List.set_cons_zero, List.set_cons_succ]
  refine wpAnyH_take (i := 2) (oi := { dst := some 32, op := Op.fieldAddr 43 (Operand.tmp 5) 1, type := 0, pos := "law.go:82", after := #[], guard := none }) (v := .pointer (some ⟨w.heap.size + 1, 1, none⟩)) rfl (by kernel_rfl) (by kernel_rfl) (by kernel_rfl) (fun _ _ _ h => h) (Or.inl ⟨by rfl, fun wS hSw => ?_⟩) (by assumption) ?_
  · clear hHeld
    clear hSw
    go_simp
  try simp only [Act.put, List.setIfInBounds_toArray, List.set_cons_zero, List.set_cons_succ]
  refine wpAnyH_take (i := 3) (oi := { dst := some 33, op := Op.load 3 (Operand.tmp 32), type := 3, pos := "law.go:82", after := #[{ on := 2, ground := Ground.data }], guard := none }) (v := .int .i64 o.n) rfl (by kernel_rfl) (by kernel_rfl) (by kernel_rfl) (fun _ _ _ h => h) (Or.inl ⟨by rfl, fun wS hSw => ?_⟩) (by assumption) ?_
  · clear hHeld
    obtain ⟨s0, s1⟩ := hSw
    go_simp
  try simp only [Act.put, List.setIfInBounds_toArray, List.set_cons_zero, List.set_cons_succ]
  refine wpAnyH_take (i := 5) (oi := { dst := some 35, op := Op.move (Operand.tmp 9), type := 29, pos := "law.go:82", after := #[{ on := 7, ground := Ground.gcOnly Departure.lateStores }], guard := none }) (v := .int .i64 aD) rfl (by kernel_rfl) (by kernel_rfl) (by kernel_rfl) (fun _ _ _ h => h) (Or.inl ⟨by rfl, fun wS hSw => ?_⟩) (by assumption) ?_
  · clear hHeld
    clear hSw
    go_simp
  try simp only [Act.put, List.setIfInBounds_toArray, List.set_cons_zero, List.set_cons_succ]
  refine wpAnyH_ready (rs := [4]) (by kernel_rfl) (by simp) ?_
  refine AllReadyH.cons (o := { dst := some 34, op := Op.call { callee := Callee.value (Operand.func 22), args := #[Operand.tmp 31, Operand.tmp 33], argTypes := #[28, 3] }, type := 29, pos := "law.go:82", after := #[{ on := 1, ground := Ground.data }, { on := 3, ground := Ground.data }], guard := none }) rfl (fun K hK => ?_) AllReadyH.nil
  clear hHeld
  go_simp
  refine HPr4.out.mono ?_; rintro e w5 ⟨rfl, F5, hB5, hK5⟩
  have HB5 := hid hB5
  have hk5 : Kp F F5 w4 w5 := ⟨⟨hK5.like.os, hK5.like.tape, hK5.like.output, hK5.like.size, hK5.like.block⟩, hK5.block, hK5.foot⟩
  have HK5 := hid ((Kp.of_below (F := F) HW4.out (Nat.le_refl _)).trans hk5)
  have HDf5 := hid (HDf4.out.kp hk5 HLt.out)
  have HD5 := hid (HD4.out.kp HDk4.out.ty hk5)
  have HSb5 : Hid (w5.heap[sb]? = some (.cells RC 41 (0, 0))) := (hk5.block sb (Array.getElem?_eq_some_iff.1 HSb4.out).1 (fun c => by have := HLt.out _ c; have := HSbx.out; omega)).trans HSb4.out
  have HNF : Hid (¬ F5 (w.heap.size + 2)) := fun c => by
    have h1 := (Array.getElem?_eq_some_iff.1 HDf4.out.s).1
    rcases hk5.foot _ c with c | c
    · have := HLt.out _ c; omega
    · omega
  clear hB5 hK5 hk5 HPr4 HDf4 HDk4 HD4 HSb4 HW4
  go_wp2_with fail
  refine hK.out _ _ (HS0.out _ HSb5.out HDf5.out.o) (fun hHeld => ?_)
  clear hK K
  try simp only [Act.put, List.setIfInBounds_toArray, List.set_cons_zero, List.set_cons_succ]
  refine wpAnyH_take (i := 6) (oi := { dst := some 36, op := Op.binOp BinOp.eql 29 (Operand.tmp 34) (Operand.tmp 35) 29, type := 4, pos := "law.go:82", after := #[{ on := 4, ground := Ground.data }, { on := 5, ground := Ground.data }, { on := 7, ground := Ground.gcOnly Departure.lateStores }], guard := none }) (v := .bool cc) rfl (by kernel_rfl) (by kernel_rfl) (by kernel_rfl) (fun _ _ _ h => h) (Or.inl ⟨by rfl, fun wS hSw => ?_⟩) (by assumption) ?_
  · clear hHeld
    have hcc := HC.out
    clear hSw
    go_simp
  try simp only [Act.put, List.setIfInBounds_toArray, List.set_cons_zero, List.set_cons_succ]
  refine wpAnyH_ready (rs := [7]) (by kernel_rfl) (by simp) ?_
  refine AllReadyH.cons (o := { dst := none, op := Op.store 41 (Operand.tmp 6) (Operand.tmp 30), type := 0, pos := "law.go:82", after := #[{ on := 0, ground := Ground.data }, { on := 4, ground := Ground.chain }, { on := 0, ground := Ground.phase }, { on := 1, ground := Ground.textOnly Departure.lateStores }, { on := 2, ground := Ground.textOnly Departure.lateStores }, { on := 3, ground := Ground.textOnly Departure.lateStores }, { on := 4, ground := Ground.textOnly Departure.lateStoresUnsure }, { on := 5, ground := Ground.textOnly Departure.lateStores }, { on := 6, ground := Ground.textOnly Departure.lateStores }], guard := none }) rfl (fun K hK => ?_) AllReadyH.nil
  clear hHeld
  rw [if_pos (by rfl)]
  refine wp_store_row 41 _ _ rfl (w.heap.size + 2) RC rfl rfl 41 _ HDf5.out.s iRC z4 oRC ?_
  have HF6 := hid (setRow_heap _ _ _ RC _ _ HDf5.out.s)
  have HE := hid (HFin.out RC cc (w5.setRow (w.heap.size + 2) RC) F5 (HB5.out.setRow HNF.out RC) (HK5.out.setRow (by omega) RC) (fun h1 h2 => by
    obtain ⟨q1, q2, q3⟩ := HSame.out h1 h2
    refine ⟨?_, ?_⟩
    · have hc := HC.out
      rw [← hc, q1]; simp
    · rw [← q2, ← q3]
      exact HD5.out.setRow HDf5.out.s))
  have HS6 := hid (HS0.out (w5.setRow (w.heap.size + 2) RC) ((setRow_other _ _ _ _ HNe.out).trans HSb5.out) ((setRow_other _ _ _ _ (by omega)).trans HDf5.out.o))
  refine hK.out _ _ HS6.out (fun hHeld => ?_)
  clear hK K
  simp only [Act.put]
  refine wpAnyH_ready (rs := [8]) (by kernel_rfl) (by simp) ?_
  refine AllReadyH.cons (o := { dst := some 7, op := Op.assign (Operand.tmp 36), type := 4, pos := "law.go:82", after := #[{ on := 6, ground := Ground.data }, { on := 7, ground := Ground.chain }, { on := 0, ground := Ground.phase }, { on := 1, ground := Ground.phase }, { on := 2, ground := Ground.phase }, { on := 3, ground := Ground.phase }, { on := 4, ground := Ground.phase }, { on := 5, ground := Ground.phase }, { on := 6, ground := Ground.phase }, { on := 7, ground := Ground.phase }], guard := none }) rfl (fun K hK => ?_) AllReadyH.nil
  clear hHeld
  go_simp
  refine hK.out _ _ HS6.out (fun hHeld => ?_)
  clear hK K
  try simp only [Act.put, List.setIfInBounds_toArray, List.set_cons_zero, List.set_cons_succ]
  refine wpAnyH_done (by kernel_rfl) ?_ _
  refine NoPanic.normal ?_
  clear hHeld
  go_wp2_with fail
  refine bodyPost_ret (v := .tuple #[.agg RC, .bool cc]) ?_ rfl ?_
  · exact ret_rb2 rfl HS4.out rfl rfl HF6.out
  exact HE.out

end Go.Proofs.YtbfllifgmlkndaaGreatDoor

namespace Go.Proofs.YtbfllifgmlkndaaGreatDoor
open Go.RowKit Go.Shelf
open Slot

set_option maxHeartbeats 4000000 in
set_option maxRecDepth 100000 in
theorem does1 (B b vb : Nat) (F : Nat → Prop) (v : Vw) (O : List (Int × Bs)) (me g cap B1 : Nat) (v2 : Vw) (u : Value) (O2 : List (Int × Bs)) (o : OpB) (w : World) (hk : o.kind = 1) (h : Dk B b vb F v O me g B1 v2 u O2 w) (_hsl : o.s.length ≤ 1048576) :
    Calls Tryz.prog 11 #[.pointer (some ⟨b, 0, none⟩), .agg (rbc me g cap v2.cur u), .agg (opbCells o)] w (DoesP B b vb F v O me v2 O2 o w) := by
  have HDf := hid (df_new w (rbc me g cap v2.cur u) (opbCells o))
  have HW0 := hid (df_below w (rbc me g cap v2.cur u) (opbCells o))
  have HDk := hid (h.call HW0.out)
  have HLt := hid h.bus.lt
  have HTy := hid h.ty
  have HDoc := hid (fun W (k : Dk B b vb F v O me g B1 v2 u O2 W) => ftell_any me g cap v2.cur B1 v2 u O2 4 o.n W k.me_ (by have := k.ok2.self; have := k.me_; omega) rfl (k.ok2.mono (by decide)) k.nd k.out (by have := k.ol2; omega))
  have HPr := hid (fun W (k : Dk B b vb F v O me g B1 v2 u O2 W) => umeet_any B b vb F v O o.n W k.bus k.env k.b7 k.ok.self (by have := k.ol; omega))
  have HSame : Hid (v2 = v → O2 = O → (tellE v2 o.n) = (tellE v o.n) ∧ (v2) = (v) ∧ (O2 ++ tellO v2 4 o.n) = (O ++ tellO v 4 o.n)) := fun h1 h2 => by subst h1 h2; exact ⟨rfl, rfl, rfl⟩
  have HFin : Hid (∀ RC c w' F', BB B w' F' b vb (v) (O ++ tellO v 4 o.n) → Kp F F' w w' → (v2 = v → O2 = O → c = true ∧ DB w' me RC (v) (O ++ tellO v 4 o.n)) → DoesP B b vb F v O me v2 O2 o w (.returned (.tuple #[.agg RC, .bool c])) w') := fun RC c w' F' h1 h2 h3 => does_fin (by unfold bV; simp [hk]) (by unfold bO; simp [hk]) h1 h2 h3
  have HOc := hid (opb_cells o)
  rw [hk] at HOc
  have iRB := infoRB (C := rbc me g cap v2.cur u) rfl
  have HRBe := hid (rfl : rbc me g cap v2.cur u = rbc me g cap v2.cur u)
  obtain ⟨RB, hRB⟩ : ∃ C, rbc me g cap v2.cur u = C := ⟨_, rfl⟩
  have HRB := hid hRB
  rw [hRB] at HDf HW0 HDk HDoc iRB ⊢
  obtain ⟨OC, hOC⟩ : ∃ C, opbCells o = C := ⟨_, rfl⟩
  rw [hOC] at HDf HW0 HDk HOc ⊢
  obtain ⟨aD, haD⟩ : ∃ c, tellE v2 o.n = c := ⟨_, rfl⟩
  obtain ⟨aP, haP⟩ : ∃ c, tellE v o.n = c := ⟨_, rfl⟩
  obtain ⟨OD, hOD⟩ : ∃ c, O2 ++ tellO v2 4 o.n = c := ⟨_, rfl⟩
  obtain ⟨OP, hOP⟩ : ∃ c, O ++ tellO v 4 o.n = c := ⟨_, rfl⟩
  rw [haD, hOD] at HSame
  rw [haP, hOP] at HSame
  rw [hOP] at HFin
  rw [haD, hOD] at HDoc
  rw [haP, hOP] at HPr
  obtain ⟨cc, hcc⟩ : ∃ c, (aP == aD) = c := ⟨_, rfl⟩
  have HC := hid hcc
  clear h _hsl hRB hOC haD haP hOD hOP HRBe hcc
  go_enter Tryz.func11, Tryz.ntmps11
  go_upto_region 1 with fail
  generalize ((w.alloc (.cells RB 41)).alloc (.cells OC 43)).alloc (.cells #[.int .i64 0, .slice none 0 0, .int .u64 0, .slice none 0 0] 41) = w1 at *
  obtain ⟨k0, k1, k2, k3, k4⟩ := HOc.out w1 _ HDf.out.o
  go_upto_region 6 with fail
  have HDoc1 := hid (HDoc.out w1 HDk.out)
  have HRb1 := hid HDf.out.r
  clear HDoc
  go_wp2_with (refine wpList_load_row rfl 41 _ rfl w.heap.size rfl 41 _ (0, 0) _ HRb1.out Tryz.underlying41 rfl iRB ?_)
  refine HDoc1.out.mono ?_; rintro r w3 ⟨g3, cap3, u3, B3, rfl, hN3, hg3, hO3, hb3⟩
  have hD3 : DB w3 me (rbc me g3 cap3 v2.cur u3) v2 OD := ⟨g3, cap3, B3, u3, rfl, hN3, hO3⟩
  have HDf3 := hid (HDf.out.below hb3)
  have HDk3 := hid (HDk.out.call hb3)
  have HW3 := hid (HW0.out.trans (hb3.mono HW0.out.size))
  obtain ⟨hRCs, oRC, iRC⟩ := hD3.one
  have HD3 := hid hD3
  obtain ⟨RC, hRC⟩ : ∃ C, rbc me g3 cap3 v2.cur u3 = C := ⟨_, rfl⟩
  rw [hRC] at HD3 iRC hRCs oRC ⊢
  clear hN3 hg3 hO3 hb3 HDoc1 HRb1 HDf HDk HW0 k0 k1 k2 k3 k4 hRC hD3
  have iRl : (Tryz.prog.info? 41).map (·.size) = some RC.toList.length := by rw [Array.length_toList]; exact iRC
  have z4 : (#[.int .i64 0, .slice none 0 0, .int .u64 0, .slice none 0 0] : Array Value).size = RC.size := hRCs.symm
  have HS4 := hid hRCs
  have HZ4 := hid (heap_alloc_new w3 (.cells #[.int .i64 0, .slice none 0 0, .int .u64 0, .slice none 0 0] 41))
  have hb4 := below_setRow (g := w3.heap.size) (below_alloc w3 (.cells #[.int .i64 0, .slice none 0 0, .int .u64 0, .slice none 0 0] 41)) (Nat.le_refl _) RC
  have HSb4 := hid (setRow_heap _ _ _ RC _ _ HZ4.out)
  have HD4 := hid (HD3.out.call hb4)
  have HDf4 := hid (HDf3.out.below hb4)
  have HDk4 := hid (HDk3.out.call hb4)
  have HW4 := hid (HW3.out.trans (hb4.mono HW3.out.size))
  have HSbx : Hid (w.heap.size ≤ w3.heap.size) := HW3.out.size
  have HNe : Hid (w3.heap.size ≠ w.heap.size + 2) := fun e => by have h1 := (Array.getElem?_eq_some_iff.1 HDf3.out.s).1; omega
  clear hb4 HD3 HDf3 HDk3 HW3 hRCs
  go_upto_region 7 with (refine wpList_store_row rfl 41 _ _ rfl w3.heap.size RC rfl rfl 41 _ HZ4.out iRC z4 oRC ?_)
  clear HZ4
  generalize (w3.alloc (.cells #[.int .i64 0, .slice none 0 0, .int .u64 0, .slice none 0 0] 41)).setRow w3.heap.size RC = w4 at *
  generalize w3.heap.size = sb at *
  have HS0 : Hid (∀ W : World, W.heap[sb]? = some (.cells RC 41 (0, 0)) → W.heap[w.heap.size + 1]? = some (.cells OC 43 (0, 0)) → W.rangeAt sb 0 RC.toList ∧ W.cell? ⟨w.heap.size + 1, 1, none⟩ = some (.int .i64 o.n)) := fun W h1 h2 => by
    obtain ⟨q0, q1, q2, q3, q4⟩ := HOc.out W _ h2
    exact ⟨row_range h1, q1⟩
  have hs0 := HS0.out w4 HSb4.out HDf4.out.o
  have HPr4 := hid (HPr.out w4.drew HDk4.out.drew)
  clear HPr HOc
  refine wp_region_noPanic ?_
  refine wp_region_held_drew (S := fun W => W.rangeAt sb 0 RC.toList ∧ W.cell? ⟨w.heap.size + 1, 1, none⟩ = some (.int .i64 o.n)) (by kernel_rfl) hs0 (fun hHeld => ?_)
  clear hs0
  have u41 := Tryz.underlying41
  refine wpAnyH_take (i := 0) (oi := { dst := some 46, op := Op.load 41 (Operand.tmp 10), type := 41, pos := "law.go:85", after := #[], guard := none }) (v := .agg RC) rfl (by kernel_rfl) (by kernel_rfl) (by kernel_rfl) (fun _ _ _ h => h) (yieldsIf_load_arr Array.toArray_toList (by rfl) _ _ rfl _ _ rfl (fun _ h => h.1) u41 rfl iRl) (by assumption) ?_
  try simp only [Act.put, List.setIfInBounds_toArray, List.set_cons_zero, List.set_cons_succ]
  refine wpAnyH_take (i := 1) (oi := { dst := some 47, op := Op.move (Operand.tmp 0), type := 28, pos := "law.go:85", after := #[], guard := none }) (v := .pointer (some ⟨b, 0, none⟩)) rfl (by kernel_rfl) (by kernel_rfl) (by kernel_rfl) (fun _ _ _ h => h) (Or.inl ⟨by rfl, fun wS hSw => ?_⟩) (by assumption) ?_
  · clear hHeld
    clear hSw
    go_simp
  try simp only [Act.put, List.setIfInBounds_toArray, List.set_cons_zero, List.set_cons_succ]
  refine wpAnyH_take (i := 2) (oi := { dst := some 48, op := Op.fieldAddr 43 (Operand.tmp 5) 1, type := 0, pos := "law.go:85", after := #[], guard := none }) (v := .pointer (some ⟨w.heap.size + 1, 1, none⟩)) rfl (by kernel_rfl) (by kernel_rfl) (by kernel_rfl) (fun _ _ _ h => h) (Or.inl ⟨by rfl, fun wS hSw => ?_⟩) (by assumption) ?_
  · clear hHeld
    clear hSw
    go_simp
  try simp only [Act.put, List.setIfInBounds_toArray, List.set_cons_zero, List.set_cons_succ]
  refine wpAnyH_take (i := 3) (oi := { dst := some 49, op := Op.load 3 (Operand.tmp 48), type := 3, pos := "law.go:85", after := #[{ on := 2, ground := Ground.data }], guard := none }) (v := .int .i64 o.n) rfl (by kernel_rfl) (by kernel_rfl) (by kernel_rfl) (fun _ _ _ h => h) (Or.inl ⟨by rfl, fun wS hSw => ?_⟩) (by assumption) ?_
  · clear hHeld
    obtain ⟨s0, s1⟩ := hSw
    go_simp
  try simp only [Act.put, List.setIfInBounds_toArray, List.set_cons_zero, List.set_cons_succ]
  refine wpAnyH_take (i := 5) (oi := { dst := some 51, op := Op.move (Operand.tmp 11), type := 29, pos := "law.go:85", after := #[{ on := 7, ground := Ground.gcOnly Departure.lateStores }], guard := none }) (v := .int .i64 aD) rfl (by kernel_rfl) (by kernel_rfl) (by kernel_rfl) (fun _ _ _ h => h) (Or.inl ⟨by rfl, fun wS hSw => ?_⟩) (by assumption) ?_
  · clear hHeld
    clear hSw
    go_simp
  try simp only [Act.put, List.setIfInBounds_toArray, List.set_cons_zero, List.set_cons_succ]
  refine wpAnyH_ready (rs := [4]) (by kernel_rfl) (by simp) ?_
  refine AllReadyH.cons (o := { dst := some 50, op := Op.call { callee := Callee.value (Operand.func 29), args := #[Operand.tmp 47, Operand.tmp 49], argTypes := #[28, 3] }, type := 29, pos := "law.go:85", after := #[{ on := 1, ground := Ground.data }, { on := 3, ground := Ground.data }], guard := none }) rfl (fun K hK => ?_) AllReadyH.nil
  clear hHeld
  go_simp
  refine HPr4.out.mono ?_; rintro e w5 ⟨rfl, F5, hB5, hK5⟩
  have HB5 := hid hB5
  have hk5 : Kp F F5 w4 w5 := ⟨⟨hK5.like.os, hK5.like.tape, hK5.like.output, hK5.like.size, hK5.like.block⟩, hK5.block, hK5.foot⟩
  have HK5 := hid ((Kp.of_below (F := F) HW4.out (Nat.le_refl _)).trans hk5)
  have HDf5 := hid (HDf4.out.kp hk5 HLt.out)
  have HD5 := hid (HD4.out.kp HDk4.out.ty hk5)
  have HSb5 : Hid (w5.heap[sb]? = some (.cells RC 41 (0, 0))) := (hk5.block sb (Array.getElem?_eq_some_iff.1 HSb4.out).1 (fun c => by have := HLt.out _ c; have := HSbx.out; omega)).trans HSb4.out
  have HNF : Hid (¬ F5 (w.heap.size + 2)) := fun c => by
    have h1 := (Array.getElem?_eq_some_iff.1 HDf4.out.s).1
    rcases hk5.foot _ c with c | c
    · have := HLt.out _ c; omega
    · omega
  clear hB5 hK5 hk5 HPr4 HDf4 HDk4 HD4 HSb4 HW4
  go_wp2_with fail
  refine hK.out _ _ (HS0.out _ HSb5.out HDf5.out.o) (fun hHeld => ?_)
  clear hK K
  try simp only [Act.put, List.setIfInBounds_toArray, List.set_cons_zero, List.set_cons_succ]
  refine wpAnyH_take (i := 6) (oi := { dst := some 52, op := Op.binOp BinOp.eql 29 (Operand.tmp 50) (Operand.tmp 51) 29, type := 4, pos := "law.go:85", after := #[{ on := 4, ground := Ground.data }, { on := 5, ground := Ground.data }, { on := 7, ground := Ground.gcOnly Departure.lateStores }], guard := none }) (v := .bool cc) rfl (by kernel_rfl) (by kernel_rfl) (by kernel_rfl) (fun _ _ _ h => h) (Or.inl ⟨by rfl, fun wS hSw => ?_⟩) (by assumption) ?_
  · clear hHeld
    have hcc := HC.out
    clear hSw
    go_simp
  try simp only [Act.put, List.setIfInBounds_toArray, List.set_cons_zero, List.set_cons_succ]
  refine wpAnyH_ready (rs := [7]) (by kernel_rfl) (by simp) ?_
  refine AllReadyH.cons (o := { dst := none, op := Op.store 41 (Operand.tmp 6) (Operand.tmp 46), type := 0, pos := "law.go:85", after := #[{ on := 0, ground := Ground.data }, { on := 4, ground := Ground.chain }, { on := 0, ground := Ground.phase }, { on := 1, ground := Ground.textOnly Departure.lateStores }, { on := 2, ground := Ground.textOnly Departure.lateStores }, { on := 3, ground := Ground.textOnly Departure.lateStores }, { on := 4, ground := Ground.textOnly Departure.lateStoresUnsure }, { on := 5, ground := Ground.textOnly Departure.lateStores }, { on := 6, ground := Ground.textOnly Departure.lateStores }], guard := none }) rfl (fun K hK => ?_) AllReadyH.nil
  clear hHeld
  rw [if_pos (by rfl)]
  refine wp_store_row 41 _ _ rfl (w.heap.size + 2) RC rfl rfl 41 _ HDf5.out.s iRC z4 oRC ?_
  have HF6 := hid (setRow_heap _ _ _ RC _ _ HDf5.out.s)
  have HE := hid (HFin.out RC cc (w5.setRow (w.heap.size + 2) RC) F5 (HB5.out.setRow HNF.out RC) (HK5.out.setRow (by omega) RC) (fun h1 h2 => by
    obtain ⟨q1, q2, q3⟩ := HSame.out h1 h2
    refine ⟨?_, ?_⟩
    · have hc := HC.out
      rw [← hc, q1]; simp
    · rw [← q2, ← q3]
      exact HD5.out.setRow HDf5.out.s))
  have HS6 := hid (HS0.out (w5.setRow (w.heap.size + 2) RC) ((setRow_other _ _ _ _ HNe.out).trans HSb5.out) ((setRow_other _ _ _ _ (by omega)).trans HDf5.out.o))
  refine hK.out _ _ HS6.out (fun hHeld => ?_)
  clear hK K
  simp only [Act.put]
  refine wpAnyH_ready (rs := [8]) (by kernel_rfl) (by simp) ?_
  refine AllReadyH.cons (o := { dst := some 7, op := Op.assign (Operand.tmp 52), type := 4, pos := "law.go:85", after := #[{ on := 6, ground := Ground.data }, { on := 7, ground := Ground.chain }, { on := 0, ground := Ground.phase }, { on := 1, ground := Ground.phase }, { on := 2, ground := Ground.phase }, { on := 3, ground := Ground.phase }, { on := 4, ground := Ground.phase }, { on := 5, ground := Ground.phase }, { on := 6, ground := Ground.phase }, { on := 7, ground := Ground.phase }], guard := none }) rfl (fun K hK => ?_) AllReadyH.nil
  clear hHeld
  go_simp
  refine hK.out _ _ HS6.out (fun hHeld => ?_)
  clear hK K
  try simp only [Act.put, List.setIfInBounds_toArray, List.set_cons_zero, List.set_cons_succ]
  refine wpAnyH_done (by kernel_rfl) ?_ _
  refine NoPanic.normal ?_
  clear hHeld
  go_wp2_with fail
  refine bodyPost_ret (v := .tuple #[.agg RC, .bool cc]) ?_ rfl ?_
  · exact ret_rb2 rfl HS4.out rfl rfl HF6.out
  exact HE.out

end Go.Proofs.YtbfllifgmlkndaaGreatDoor
