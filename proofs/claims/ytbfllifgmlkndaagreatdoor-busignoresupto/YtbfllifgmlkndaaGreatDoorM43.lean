/- BlDo2, BlDo5. -/
import Derived.Test.YtbfllifgmlkndaaGreatDoorM41
namespace Go.Proofs.YtbfllifgmlkndaaGreatDoor
open Go.RowKit Go.Shelf
open Slot

set_option maxHeartbeats 4000000 in
set_option maxRecDepth 100000 in
theorem does2 (B b vb : Nat) (F : Nat → Prop) (v : Vw) (O : List (Int × Bs)) (me g cap B1 : Nat) (v2 : Vw) (u : Value) (O2 : List (Int × Bs)) (o : OpB) (w : World) (hk : o.kind = 2) (h : Dk B b vb F v O me g B1 v2 u O2 w) (hsl : o.s.length ≤ 1048576) :
    Calls Tryz.prog 11 #[.pointer (some ⟨b, 0, none⟩), .agg (rbc me g cap v2.cur u), .agg (opbCells o)] w (DoesP B b vb F v O me v2 O2 o w) := by
  have HDf := hid (df_new w (rbc me g cap v2.cur u) (opbCells o))
  have HW0 := hid (df_below w (rbc me g cap v2.cur u) (opbCells o))
  have HDk := hid (h.call HW0.out)
  have HLt := hid h.bus.lt
  have HTy := hid h.ty
  have HDoc := hid (fun W (k : Dk B b vb F v O me g B1 v2 u O2 W) => ftake_any me g cap v2.cur B1 v2 u O2 o.s W k.me_ (by have := k.ok2.self; have := k.me_; omega) rfl (k.ok2.mono (by decide)) k.nd k.out (by have := k.ol2; omega) hsl)
  have HPr := hid (fun W (k : Dk B b vb F v O me g B1 v2 u O2 W) => utake_any B b vb F v O o.s W k.bus k.env k.b7 (k.ok.mono (by decide)) (by have := k.ol; omega) (by omega))
  have HSame : Hid (v2 = v → O2 = O → (bTake v2 o.s) = (bTake v o.s) ∧ (bView v2 o.s) = (bView v o.s) ∧ (O2 ++ bOut v2 o.s) = (O ++ bOut v o.s)) := fun h1 h2 => by subst h1 h2; exact ⟨rfl, rfl, rfl⟩
  have HFin : Hid (∀ RC c w' F', BB B w' F' b vb (bView v o.s) (O ++ bOut v o.s) → Kp F F' w w' → (v2 = v → O2 = O → c = true ∧ DB w' me RC (bView v o.s) (O ++ bOut v o.s)) → DoesP B b vb F v O me v2 O2 o w (.returned (.tuple #[.agg RC, .bool c])) w') := fun RC c w' F' h1 h2 h3 => does_fin (by unfold bV; simp [hk]) (by unfold bO; simp [hk]) h1 h2 h3
  have HOc := hid (opb_cells o)
  rw [hk] at HOc
  have iRB := infoRB (C := rbc me g cap v2.cur u) rfl
  have HRBe := hid (rfl : rbc me g cap v2.cur u = rbc me g cap v2.cur u)
  obtain ⟨RB, hRB⟩ : ∃ C, rbc me g cap v2.cur u = C := ⟨_, rfl⟩
  have HRB := hid hRB
  rw [hRB] at HDf HW0 HDk HDoc iRB ⊢
  obtain ⟨OC, hOC⟩ : ∃ C, opbCells o = C := ⟨_, rfl⟩
  rw [hOC] at HDf HW0 HDk HOc ⊢
  obtain ⟨aD, haD⟩ : ∃ c, bTake v2 o.s = c := ⟨_, rfl⟩
  obtain ⟨aP, haP⟩ : ∃ c, bTake v o.s = c := ⟨_, rfl⟩
  obtain ⟨VD, hVD⟩ : ∃ c, bView v2 o.s = c := ⟨_, rfl⟩
  obtain ⟨VP, hVP⟩ : ∃ c, bView v o.s = c := ⟨_, rfl⟩
  obtain ⟨OD, hOD⟩ : ∃ c, O2 ++ bOut v2 o.s = c := ⟨_, rfl⟩
  obtain ⟨OP, hOP⟩ : ∃ c, O ++ bOut v o.s = c := ⟨_, rfl⟩
  rw [haD, hVD, hOD] at HSame
  rw [haP, hVP, hOP] at HSame
  rw [hVP, hOP] at HFin
  rw [haD, hOD] at HDoc
  rw [hVD] at HDoc
  rw [haP, hVP, hOP] at HPr
  obtain ⟨cc, hcc⟩ : ∃ c, (aP == aD) = c := ⟨_, rfl⟩
  have HC := hid hcc
  clear h hsl hRB hOC haD haP hVD hVP hOD hOP HRBe hcc
  go_enter Tryz.func11, Tryz.ntmps11
  go_upto_region 1 with fail
  generalize ((w.alloc (.cells RB 41)).alloc (.cells OC 43)).alloc (.cells #[.int .i64 0, .slice none 0 0, .int .u64 0, .slice none 0 0] 41) = w1 at *
  obtain ⟨k0, k1, k2, k3, k4⟩ := HOc.out w1 _ HDf.out.o
  go_upto_region 9 with fail
  have HDoc1 := hid (HDoc.out w1 HDk.out)
  have HRb1 := hid HDf.out.r
  clear HDoc
  go_wp2_with (refine wpList_load_row rfl 41 _ rfl w.heap.size rfl 41 _ (0, 0) _ HRb1.out Tryz.underlying41 rfl iRB ?_)
  refine HDoc1.out.mono ?_; rintro r w3 ⟨g3, cap3, u3, B3, rfl, hN3, hg3, hO3, hb3⟩
  have hD3 : DB w3 me (rbc me g3 cap3 VD.cur u3) VD OD := ⟨g3, cap3, B3, u3, rfl, hN3, hO3⟩
  have HDf3 := hid (HDf.out.below hb3)
  have HDk3 := hid (HDk.out.call hb3)
  have HW3 := hid (HW0.out.trans (hb3.mono HW0.out.size))
  obtain ⟨hRCs, oRC, iRC⟩ := hD3.one
  have HD3 := hid hD3
  obtain ⟨RC, hRC⟩ : ∃ C, rbc me g3 cap3 VD.cur u3 = C := ⟨_, rfl⟩
  rw [hRC] at HD3 iRC hRCs oRC ⊢
  clear hN3 hg3 hO3 hb3 HDoc1 HRb1 HDf HDk HW0 k0 k1 k2 k3 k4 hRC hD3
  have iRl : (Tryz.prog.info? 41).map (·.size) = some RC.toList.length := by rw [Array.length_toList]; exact iRC
  have z4 : (#[.int .i64 0, .slice none 0 0, .int .u64 0, .slice none 0 0] : Array Value).size = RC.size := hRCs.symm
  have HS4 := hid hRCs
  have HZ4 := hid (heap_alloc_new w3 (.cells #[.int .i64 0, .slice none 0 0, .int .u64 0, .slice none 0 0] 41))
  have hb4 := below_setRow (g := w3.heap.size) (below_alloc w3 (.cells #[.int .i64 0, .slice none 0 0, .int .u64 0, .slice none 0 0] 41)) (Nat.le_refl _) RC
  have HSb4 := hid (setRow_heap _ _ _ RC _ _ HZ4.out)
  have HD4 := hid (HD3.out.call hb4)
  have HDf4 := hid (HDf3.out.below hb4)
  have HDk4 := hid (HDk3.out.call hb4)
  have HW4 := hid (HW3.out.trans (hb4.mono HW3.out.size))
  have HSbx : Hid (w.heap.size ≤ w3.heap.size) := HW3.out.size
  have HNe : Hid (w3.heap.size ≠ w.heap.size + 2) := fun e => by have h1 := (Array.getElem?_eq_some_iff.1 HDf3.out.s).1; omega
  clear hb4 HD3 HDf3 HDk3 HW3 hRCs
  go_upto_region 10 with (refine wpList_store_row rfl 41 _ _ rfl w3.heap.size RC rfl rfl 41 _ HZ4.out iRC z4 oRC ?_)
  clear HZ4
  generalize (w3.alloc (.cells #[.int .i64 0, .slice none 0 0, .int .u64 0, .slice none 0 0] 41)).setRow w3.heap.size RC = w4 at *
  generalize w3.heap.size = sb at *
  have HS0 : Hid (∀ W : World, W.heap[sb]? = some (.cells RC 41 (0, 0)) → W.heap[w.heap.size + 1]? = some (.cells OC 43 (0, 0)) → W.rangeAt sb 0 RC.toList ∧ W.cell? ⟨w.heap.size + 1, 4, none⟩ = some (.string ⟨o.s.toArray⟩)) := fun W h1 h2 => by
    obtain ⟨q0, q1, q2, q3, q4⟩ := HOc.out W _ h2
    exact ⟨row_range h1, q4⟩
  have hs0 := HS0.out w4 HSb4.out HDf4.out.o
  have HPr4 := hid (HPr.out w4.drew HDk4.out.drew)
  clear HPr HOc
  refine wp_region_noPanic ?_
  refine wp_region_held_drew (S := fun W => W.rangeAt sb 0 RC.toList ∧ W.cell? ⟨w.heap.size + 1, 4, none⟩ = some (.string ⟨o.s.toArray⟩)) (by kernel_rfl) hs0 (fun hHeld => ?_)
  clear hs0
  have u41 := Tryz.underlying41
  refine wpAnyH_take (i := 0) (oi := { dst := some 62, op := Op.load 41 (Operand.tmp 12), type := 41, pos := "law.go:88", after := #[], guard := none }) (v := .agg RC) rfl (by kernel_rfl) (by kernel_rfl) (by kernel_rfl) (fun _ _ _ h => h) (yieldsIf_load_arr Array.toArray_toList (by rfl) _ _ rfl _ _ rfl (fun _ h => h.1) u41 rfl iRl) (by assumption) ?_
  try simp only [Act.put, List.setIfInBounds_toArray, List.set_cons_zero, List.set_cons_succ]
  refine wpAnyH_take (i := 1) (oi := { dst := some 63, op := Op.move (Operand.tmp 0), type := 28, pos := "law.go:88", after := #[], guard := none }) (v := .pointer (some ⟨b, 0, none⟩)) rfl (by kernel_rfl) (by kernel_rfl) (by kernel_rfl) (fun _ _ _ h => h) (Or.inl ⟨by rfl, fun wS hSw => ?_⟩) (by assumption) ?_
  · clear hHeld
    clear hSw
    go_simp
  try simp only [Act.put, List.setIfInBounds_toArray, List.set_cons_zero, List.set_cons_succ]
  refine wpAnyH_take (i := 2) (oi := { dst := some 64, op := Op.fieldAddr 43 (Operand.tmp 5) 4, type := 0, pos := "law.go:88", after := #[], guard := none }) (v := .pointer (some ⟨w.heap.size + 1, 4, none⟩)) rfl (by kernel_rfl) (by kernel_rfl) (by kernel_rfl) (fun _ _ _ h => h) (Or.inl ⟨by rfl, fun wS hSw => ?_⟩) (by assumption) ?_
  · clear hHeld
    clear hSw
    go_simp
  try simp only [Act.put, List.setIfInBounds_toArray, List.set_cons_zero, List.set_cons_succ]
  refine wpAnyH_take (i := 3) (oi := { dst := some 65, op := Op.load 9 (Operand.tmp 64), type := 9, pos := "law.go:88", after := #[{ on := 2, ground := Ground.data }], guard := none }) (v := .string ⟨o.s.toArray⟩) rfl (by kernel_rfl) (by kernel_rfl) (by kernel_rfl) (fun _ _ _ h => h) (Or.inl ⟨by rfl, fun wS hSw => ?_⟩) (by assumption) ?_
  · clear hHeld
    obtain ⟨s0, s1⟩ := hSw
    go_simp
  try simp only [Act.put, List.setIfInBounds_toArray, List.set_cons_zero, List.set_cons_succ]
  refine wpAnyH_take (i := 5) (oi := { dst := some 67, op := Op.move (Operand.tmp 13), type := 4, pos := "law.go:88", after := #[{ on := 7, ground := Ground.gcOnly Departure.lateStores }], guard := none }) (v := .bool aD) rfl (by kernel_rfl) (by kernel_rfl) (by kernel_rfl) (fun _ _ _ h => h) (Or.inl ⟨by rfl, fun wS hSw => ?_⟩) (by assumption) ?_
  · clear hHeld
    clear hSw
    go_simp
  try simp only [Act.put, List.setIfInBounds_toArray, List.set_cons_zero, List.set_cons_succ]
  refine wpAnyH_ready (rs := [4]) (by kernel_rfl) (by simp) ?_
  refine AllReadyH.cons (o := { dst := some 66, op := Op.call { callee := Callee.value (Operand.func 17), args := #[Operand.tmp 63, Operand.tmp 65], argTypes := #[28, 9] }, type := 4, pos := "law.go:88", after := #[{ on := 1, ground := Ground.data }, { on := 3, ground := Ground.data }], guard := none }) rfl (fun K hK => ?_) AllReadyH.nil
  clear hHeld
  go_simp
  refine HPr4.out.mono ?_; rintro e w5 ⟨rfl, F5, hB5, hK5⟩
  have HB5 := hid hB5
  have hk5 : Kp F F5 w4 w5 := ⟨⟨hK5.like.os, hK5.like.tape, hK5.like.output, hK5.like.size, hK5.like.block⟩, hK5.block, hK5.foot⟩
  have HK5 := hid ((Kp.of_below (F := F) HW4.out (Nat.le_refl _)).trans hk5)
  have HDf5 := hid (HDf4.out.kp hk5 HLt.out)
  have HD5 := hid (HD4.out.kp HDk4.out.ty hk5)
  have HSb5 : Hid (w5.heap[sb]? = some (.cells RC 41 (0, 0))) := (hk5.block sb (Array.getElem?_eq_some_iff.1 HSb4.out).1 (fun c => by have := HLt.out _ c; have := HSbx.out; omega)).trans HSb4.out
  have HNF : Hid (¬ F5 (w.heap.size + 2)) := fun c => by
    have h1 := (Array.getElem?_eq_some_iff.1 HDf4.out.s).1
    rcases hk5.foot _ c with c | c
    · have := HLt.out _ c; omega
    · omega
  clear hB5 hK5 hk5 HPr4 HDf4 HDk4 HD4 HSb4 HW4
  go_wp2_with fail
  refine hK.out _ _ (HS0.out _ HSb5.out HDf5.out.o) (fun hHeld => ?_)
  clear hK K
  try simp only [Act.put, List.setIfInBounds_toArray, List.set_cons_zero, List.set_cons_succ]
  refine wpAnyH_take (i := 6) (oi := { dst := some 68, op := Op.binOp BinOp.eql 4 (Operand.tmp 66) (Operand.tmp 67) 4, type := 4, pos := "law.go:88", after := #[{ on := 4, ground := Ground.data }, { on := 5, ground := Ground.data }, { on := 7, ground := Ground.gcOnly Departure.lateStores }], guard := none }) (v := .bool cc) rfl (by kernel_rfl) (by kernel_rfl) (by kernel_rfl) (fun _ _ _ h => h) (Or.inl ⟨by rfl, fun wS hSw => ?_⟩) (by assumption) ?_
  · clear hHeld
    have hcc := HC.out
    clear hSw
    go_simp
  try simp only [Act.put, List.setIfInBounds_toArray, List.set_cons_zero, List.set_cons_succ]
  refine wpAnyH_ready (rs := [7]) (by kernel_rfl) (by simp) ?_
  refine AllReadyH.cons (o := { dst := none, op := Op.store 41 (Operand.tmp 6) (Operand.tmp 62), type := 0, pos := "law.go:88", after := #[{ on := 0, ground := Ground.data }, { on := 4, ground := Ground.chain }, { on := 0, ground := Ground.phase }, { on := 1, ground := Ground.textOnly Departure.lateStores }, { on := 2, ground := Ground.textOnly Departure.lateStores }, { on := 3, ground := Ground.textOnly Departure.lateStores }, { on := 4, ground := Ground.textOnly Departure.lateStoresUnsure }, { on := 5, ground := Ground.textOnly Departure.lateStores }, { on := 6, ground := Ground.textOnly Departure.lateStores }], guard := none }) rfl (fun K hK => ?_) AllReadyH.nil
  clear hHeld
  rw [if_pos (by rfl)]
  refine wp_store_row 41 _ _ rfl (w.heap.size + 2) RC rfl rfl 41 _ HDf5.out.s iRC z4 oRC ?_
  have HF6 := hid (setRow_heap _ _ _ RC _ _ HDf5.out.s)
  have HE := hid (HFin.out RC cc (w5.setRow (w.heap.size + 2) RC) F5 (HB5.out.setRow HNF.out RC) (HK5.out.setRow (by omega) RC) (fun h1 h2 => by
    obtain ⟨q1, q2, q3⟩ := HSame.out h1 h2
    refine ⟨?_, ?_⟩
    · have hc := HC.out
      rw [← hc, q1]; simp
    · rw [← q2, ← q3]
      exact HD5.out.setRow HDf5.out.s))
  have HS6 := hid (HS0.out (w5.setRow (w.heap.size + 2) RC) ((setRow_other _ _ _ _ HNe.out).trans HSb5.out) ((setRow_other _ _ _ _ (by omega)).trans HDf5.out.o))
  refine hK.out _ _ HS6.out (fun hHeld => ?_)
  clear hK K
  simp only [Act.put]
  refine wpAnyH_ready (rs := [8]) (by kernel_rfl) (by simp) ?_
  refine AllReadyH.cons (o := { dst := some 7, op := Op.assign (Operand.tmp 68), type := 4, pos := "law.go:88", after := #[{ on := 6, ground := Ground.data }, { on := 7, ground := Ground.chain }, { on := 0, ground := Ground.phase }, { on := 1, ground := Ground.phase }, { on := 2, ground := Ground.phase }, { on := 3, ground := Ground.phase }, { on := 4, ground := Ground.phase }, { on := 5, ground := Ground.phase }, { on := 6, ground := Ground.phase }, { on := 7, ground := Ground.phase }], guard := none }) rfl (fun K hK => ?_) AllReadyH.nil
  clear hHeld
  go_simp
  refine hK.out _ _ HS6.out (fun hHeld => ?_)
  clear hK K
  try simp only [Act.put, List.setIfInBounds_toArray, List.set_cons_zero, List.set_cons_succ]
  refine wpAnyH_done (by kernel_rfl) ?_ _
  refine NoPanic.normal ?_
  clear hHeld
  go_wp2_with fail
  refine bodyPost_ret (v := .tuple #[.agg RC, .bool cc]) ?_ rfl ?_
  · exact ret_rb2 rfl HS4.out rfl rfl HF6.out
  exact HE.out

end Go.Proofs.YtbfllifgmlkndaaGreatDoor

namespace Go.Proofs.YtbfllifgmlkndaaGreatDoor
open Go.RowKit Go.Shelf
open Slot

set_option maxHeartbeats 1000000 in
theorem bsame_nil (a1 a2 : Option Addr) (n c1 c2 : Nat) (w : World) (hn : n ≠ 0) (hm : n ≤ 1000000) : Calls Tryz.prog 12 #[.slice a1 n c1, .slice a2 0 c2] w fun e w' => e = .returned (.bool false) ∧ Below w.heap.size w w' := by
  have hz : ((n : Int) != 0) = true := bne_iff_ne.2 (by omega)
  have hz2 : (n : Int) ≤ 1000000 := by omega
  go_enter Tryz.func12, Tryz.ntmps12
  go_wp2_with fail
  go_ret
  exact ⟨rfl, Below.refl _ _⟩
set_option maxHeartbeats 4000000 in
set_option maxRecDepth 100000 in
theorem does5 (B b vb : Nat) (F : Nat → Prop) (v : Vw) (O : List (Int × Bs)) (me g cap B1 : Nat) (v2 : Vw) (u : Value) (O2 : List (Int × Bs)) (o : OpB) (w : World) (hk : o.kind = 5) (h : Dk B b vb F v O me g B1 v2 u O2 w) (hO : O2 = O ∨ O2 = []) :
    Calls Tryz.prog 11 #[.pointer (some ⟨b, 0, none⟩), .agg (rbc me g cap v2.cur u), .agg (opbCells o)] w (DoesP B b vb F v O me v2 O2 o w) := by
  have HDf := hid (df_new w (rbc me g cap v2.cur u) (opbCells o))
  have HW0 := hid (df_below w (rbc me g cap v2.cur u) (opbCells o))
  have HDk := hid (h.call HW0.out)
  have HLt := hid h.bus.lt
  have HTy := hid h.ty
  have HPr := hid (fun W (k : Dk B b vb F v O me g B1 v2 u O2 W) => uouts_any B b vb F v O W k.bus)
  have HFin : Hid (∀ RC c w' F', BB B w' F' b vb v [] → Kp F F' w w' → (v2 = v → O2 = O → c = true ∧ DB w' me RC v []) → DoesP B b vb F v O me v2 O2 o w (.returned (.tuple #[.agg RC, .bool c])) w') := fun RC c w' F' h1 h2 h3 => does_fin (by unfold bV; simp [hk]) (by unfold bO; simp [hk]) h1 h2 h3
  have HOc := hid (opb_cells o)
  rw [hk] at HOc
  obtain ⟨a2, c2, rfl⟩ := out_shape h.out
  have HU : Hid (∀ W, Dk B b vb F v O me g B1 v2 (.slice a2 O2.length c2) O2 W → OutB W a2 O2) := fun W k => by
    obtain ⟨a, c, e1, e2⟩ := outr_out k.out
    injection e1 with e1 _ _
    rw [e1]; exact e2
  have HX : Hid (O2 = O ∨ O2 = []) := hO
  obtain ⟨NO, hNO⟩ : ∃ n, O2.length = n := ⟨_, rfl⟩
  have HNO := hid hNO
  rw [hNO] at HDf HW0 HDk HPr HU ⊢
  obtain ⟨OC, hOC⟩ : ∃ C, opbCells o = C := ⟨_, rfl⟩
  rw [hOC] at HDf HW0 HDk HOc ⊢
  obtain ⟨RB, hRB⟩ : ∃ C, rbc me g cap v2.cur (.slice a2 NO c2) = C := ⟨_, rfl⟩
  have HRB := hid hRB
  have HR3 : Hid (∀ W : World, W.heap[w.heap.size]? = some (.cells RB 41 (0, 0)) → W.cell? ⟨w.heap.size, 3, none⟩ = some (.slice a2 NO c2) ∧ W.frozen? ⟨w.heap.size, 3, none⟩ = false ∧ (W.setCell ⟨w.heap.size, 3, none⟩ (.slice none 0 0)).heap[w.heap.size]? = some (.cells (rbc me g cap v2.cur (.slice none 0 0)) 41 (0, 0))) := fun W h => by
    rw [← hRB] at h
    exact ⟨cell_of_row _ _ 3 _ _ _ h, by simp [World.frozen?, h], heap_setCell_same W w.heap.size 3 _ _ _ h⟩
  rw [hRB] at HDf HW0 HDk ⊢
  have HOl := hid h.ol
  have HMe := hid h.me_
  clear h hO hNO hOC hRB
  go_enter Tryz.func11, Tryz.ntmps11
  go_upto_region 1 with fail
  generalize ((w.alloc (.cells RB 41)).alloc (.cells OC 43)).alloc (.cells #[.int .i64 0, .slice none 0 0, .int .u64 0, .slice none 0 0] 41) = w1 at *
  obtain ⟨k0, k1, k2, k3, k4⟩ := HOc.out w1 _ HDf.out.o
  go_upto_region 20 with fail
  have HPr1 := hid (HPr.out w1.drew HDk.out.drew)
  have hs0 := (HR3.out _ HDf.out.r).1
  clear HPr HOc k0 k1 k2 k3 k4
  refine wp_region_noPanic ?_
  refine wp_region_held_drew (S := fun W => W.cell? ⟨w.heap.size, 3, none⟩ = some (.slice a2 NO c2)) (by kernel_rfl) hs0 (fun hHeld => ?_)
  clear hs0
  refine wpAnyH_take (i := 0) (oi := { dst := some 117, op := Op.move (Operand.tmp 0), type := 28, pos := "law.go:98", after := #[], guard := none }) (v := .pointer (some ⟨b, 0, none⟩)) rfl (by kernel_rfl) (by kernel_rfl) (by kernel_rfl) (fun _ _ _ h => h) (Or.inl ⟨by rfl, fun wS hSw => ?_⟩) (by assumption) ?_
  · clear hHeld
    clear hSw
    go_simp
  try simp only [Act.put, List.setIfInBounds_toArray, List.set_cons_zero, List.set_cons_succ]
  refine wpAnyH_take (i := 2) (oi := { dst := some 119, op := Op.fieldAddr 41 (Operand.tmp 4) 1, type := 0, pos := "law.go:98", after := #[], guard := none }) (v := .pointer (some ⟨w.heap.size, 3, none⟩)) rfl (by kernel_rfl) (by kernel_rfl) (by kernel_rfl) (fun _ _ _ h => h) (Or.inl ⟨by rfl, fun wS hSw => ?_⟩) (by assumption) ?_
  · clear hHeld
    clear hSw
    go_simp
  try simp only [Act.put, List.setIfInBounds_toArray, List.set_cons_zero, List.set_cons_succ]
  refine wpAnyH_take (i := 3) (oi := { dst := some 120, op := Op.load 39 (Operand.tmp 119), type := 39, pos := "law.go:98", after := #[{ on := 2, ground := Ground.data }], guard := none }) (v := .slice a2 NO c2) rfl (by kernel_rfl) (by kernel_rfl) (by kernel_rfl) (fun _ _ _ h => h) (Or.inl ⟨by rfl, fun wS hSw => ?_⟩) (by assumption) ?_
  · clear hHeld
    have s0 := hSw
    go_simp
  try simp only [Act.put, List.setIfInBounds_toArray, List.set_cons_zero, List.set_cons_succ]
  refine wpAnyH_ready (rs := [1]) (by kernel_rfl) (by simp) ?_
  refine AllReadyH.cons (o := { dst := some 118, op := Op.call { callee := Callee.value (Operand.func 13), args := #[Operand.tmp 117], argTypes := #[28] }, type := 47, pos := "law.go:98", after := #[{ on := 0, ground := Ground.data }], guard := none }) rfl (fun K hK => ?_) AllReadyH.nil
  clear hHeld
  go_simp
  refine HPr1.out.mono ?_; rintro e w5 ⟨a5, c5, rfl, ho5, hx5, F5, hB5, hK5, hn5⟩
  have HB5 := hid hB5
  have hk5 : Kp F F5 w1 w5 := ⟨⟨hK5.like.os, hK5.like.tape, hK5.like.output, hK5.like.size, hK5.like.block⟩, hK5.block, hK5.foot⟩
  have HK5 := hid ((Kp.of_below (F := F) HW0.out (Nat.le_refl _)).trans hk5)
  have HDf5 := hid (HDf.out.kp hk5 HLt.out)
  have HN5 := hid (nd_kp HDk.out.nd HDk.out.ty hk5)
  have hu5 := HU.out w1 HDk.out
  have HUo : Hid (OutB w5 a2 O2) := fun hne => by
    obtain ⟨x, o, rfl, h1, h2⟩ := hu5 hne
    have hxF : ¬ F x := fun c => by
      obtain ⟨C, t, fr, e, hty⟩ := HDk.out.ty x c
      obtain ⟨-, h3⟩ := HDk.out.out
      rcases h3 with ⟨h3, -⟩ | ⟨gg, cp, cur', hv, hg, hh, r⟩
      · cases h3
      · injection hv with hv _ _
        injection hv with hv
        injection hv with hv _ _
        rw [← hv, e] at hh
        injection hh with hh
        injection hh with _ hh _
        rcases hty with rfl | rfl | rfl <;> exact absurd hh (by decide)
    have hcx := hk5.block x h1 hxF
    refine ⟨x, o, rfl, Nat.lt_of_lt_of_le h1 hk5.like.size, fun j hj => ?_⟩
    obtain ⟨q1, q2⟩ := h2 j hj
    exact ⟨(World.cell?_of_block hcx).trans q1, (World.cell?_of_block hcx).trans q2⟩
  have HO5 := hid ho5
  have HNF : Hid (¬ F5 w.heap.size ∧ ¬ F5 (w.heap.size + 2)) := by
    have h1 := (Array.getElem?_eq_some_iff.1 HDf.out.s).1
    refine ⟨fun c => ?_, fun c => ?_⟩
    all_goals
      rcases hk5.foot _ c with c | c
      · have := HLt.out _ c; omega
      · omega
  have hsm : ∃ q : Bool, (v2 = v → O2 = O → q = true) ∧ ∀ W, OutB W a5 O → OutB W a2 O2 → Calls Tryz.prog 12 #[.slice a5 O.length c5, .slice a2 NO c2] W fun e w' => e = .returned (.bool q) ∧ Below W.heap.size W w' := by
    have hol := HOl.out
    by_cases e : O2 = O
    · refine ⟨true, fun _ _ => rfl, fun W h1 h2 => ?_⟩
      have := HNO.out
      rw [e] at this h2
      rw [this]
      exact bsame_any a5 a2 O NO c5 c2 W this h1 h2 (by omega)
    · have e0 : O2 = [] := HX.out.resolve_left e
      refine ⟨false, fun _ h => absurd h e, fun W h1 h2 => ?_⟩
      have hz := HNO.out
      rw [e0] at hz
      have : NO = 0 := hz.symm
      rw [this]
      exact bsame_nil a5 a2 O.length c5 c2 W (fun c => e (by rw [e0]; exact (List.length_eq_zero_iff.1 c).symm)) (by omega)
  obtain ⟨q, hq1, hq2⟩ := hsm
  have HQ := hid hq1
  have HSm := hid (hq2 w5 ho5 HUo.out)
  clear ho5 hx5 hB5 hK5 hn5 hk5 hu5 HPr1 hq1 hq2
  obtain ⟨NP, hNP⟩ : ∃ n, O.length = n := ⟨_, rfl⟩
  rw [hNP] at HSm ⊢
  clear hNP
  go_wp2_with fail
  refine hK.out _ _ (HR3.out _ HDf5.out.r).1 (fun hHeld => ?_)
  clear hK K
  try simp only [Act.put, List.setIfInBounds_toArray, List.set_cons_zero, List.set_cons_succ]
  refine wpAnyH_ready (rs := [4]) (by kernel_rfl) (by simp) ?_
  refine AllReadyH.cons (o := { dst := some 121, op := Op.call { callee := Callee.value (Operand.func 12), args := #[Operand.tmp 118, Operand.tmp 120], argTypes := #[47, 39] }, type := 4, pos := "law.go:98", after := #[{ on := 1, ground := Ground.data }, { on := 3, ground := Ground.data }, { on := 1, ground := Ground.chain }], guard := none }) rfl (fun K hK => ?_) AllReadyH.nil
  clear hHeld
  go_simp
  refine HSm.out.mono ?_; rintro e w6 ⟨rfl, hb6⟩
  have HB6 := hid (HB5.out.call hb6)
  have HK6 := hid (HK5.out.trans (Kp.of_below (F := F5) hb6 (Nat.le_refl _)))
  have HDf6 := hid (HDf5.out.below hb6)
  have HN6 := hid (HN5.out.below hb6 HN5.out.lt)
  clear hb6 HSm HUo HO5 HB5 HK5 HDf5 HN5
  go_wp2_with fail
  refine hK.out _ _ (HR3.out _ HDf6.out.r).1 (fun hHeld => ?_)
  clear hK K
  try simp only [Act.put, List.setIfInBounds_toArray, List.set_cons_zero, List.set_cons_succ]
  refine wpAnyH_ready (rs := [5]) (by kernel_rfl) (by simp) ?_
  refine AllReadyH.cons (o := { dst := some 18, op := Op.assign (Operand.tmp 121), type := 4, pos := "law.go:98", after := #[{ on := 4, ground := Ground.data }, { on := 4, ground := Ground.chain }, { on := 0, ground := Ground.phase }, { on := 1, ground := Ground.phase }, { on := 2, ground := Ground.phase }, { on := 3, ground := Ground.phase }, { on := 4, ground := Ground.phase }], guard := none }) rfl (fun K hK => ?_) AllReadyH.nil
  clear hHeld
  go_simp
  refine hK.out _ _ (HR3.out _ HDf6.out.r).1 (fun hHeld => ?_)
  clear hK K
  try simp only [Act.put, List.setIfInBounds_toArray, List.set_cons_zero, List.set_cons_succ]
  refine wpAnyH_done (by kernel_rfl) ?_ _
  refine NoPanic.normal ?_
  clear hHeld
  obtain ⟨-, f3, h7⟩ := HR3.out _ HDf6.out.r
  have l3 := (HR3.out _ HDf6.out.r).1
  have HR7 := hid h7
  have HS7 : Hid ((w6.setCell ⟨w.heap.size, 3, none⟩ (.slice none 0 0)).heap[w.heap.size + 2]? = _) := (Below.heap_setCell _ _ _ _ (by show w.heap.size + 2 ≠ w.heap.size; omega)).trans HDf6.out.s
  have HB7 := hid (HB6.out.setCell (j := 3) HNF.out.1 (.slice none 0 0))
  have HK7 := hid (HK6.out.setCell (x := w.heap.size) (j := 3) (Nat.le_refl _) (.slice none 0 0))
  have HN7 := hid (HN6.out.turn (Below.heap_setCell w6 ⟨w.heap.size, 3, none⟩ (.slice none 0 0) g (nd_apart HN6.out HDf6.out.r)))
  clear h7 HB6 HK6 HN6
  have hRCs : (rbc me g cap v2.cur (.slice none 0 0)).size = 4 := rfl
  have iRC : (Tryz.prog.info? 41).map (·.size) = some (rbc me g cap v2.cur (.slice none 0 0)).size := infoRB rfl
  have oRC : (rbc me g cap v2.cur (.slice none 0 0)).all (·.oneCell') = true := rbc_one _ _ _ _ _ rfl
  have HD7 : Hid (DB (w6.setCell ⟨w.heap.size, 3, none⟩ (.slice none 0 0)) me (rbc me g cap v2.cur (.slice none 0 0)) v2 []) := ⟨g, cap, 0, .slice none 0 0, rfl, HN7.out, World.ownsRow_nil _ _ _ _⟩
  obtain ⟨RC, hRC⟩ : ∃ C, rbc me g cap v2.cur (.slice none 0 0) = C := ⟨_, rfl⟩
  rw [hRC] at HR7 HD7 hRCs iRC oRC
  clear hRC
  have z4 : (#[.int .i64 0, .slice none 0 0, .int .u64 0, .slice none 0 0] : Array Value).size = RC.size := hRCs.symm
  have HS4 := hid hRCs
  go_upto_region 22 with fail
  clear f3 l3 HDf6
  generalize w6.setCell ⟨w.heap.size, 3, none⟩ (.slice none 0 0) = w7 at *
  have HE := hid (HFin.out RC q (w7.setRow (w.heap.size + 2) RC) F5 (HB7.out.setRow HNF.out.2 RC) (HK7.out.setRow (by omega) RC) (fun h1 h2 => ⟨HQ.out h1 h2, by
    have := HD7.out.setRow (C := RC) HS7.out
    rwa [h1] at this⟩))
  have HF6 := hid (setRow_heap _ _ _ RC _ _ HS7.out)
  clear hRCs
  go_wp2_with (first | (refine wpList_load_row rfl 41 _ rfl w.heap.size rfl 41 _ (0, 0) _ HR7.out Tryz.underlying41 rfl iRC ?_) | (refine wpList_store_row rfl 41 _ _ rfl (w.heap.size + 2) RC rfl rfl 41 _ HS7.out iRC z4 oRC ?_))
  refine bodyPost_ret (v := .tuple #[.agg RC, .bool q]) ?_ rfl ?_
  · exact ret_rb2 rfl HS4.out rfl rfl HF6.out
  exact HE.out

end Go.Proofs.YtbfllifgmlkndaaGreatDoor
