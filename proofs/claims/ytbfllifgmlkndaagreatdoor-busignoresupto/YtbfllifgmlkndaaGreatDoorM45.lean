/- BlDo4. -/
import Derived.Test.YtbfllifgmlkndaaGreatDoorM41
namespace Go.Proofs.YtbfllifgmlkndaaGreatDoor
open Go.RowKit Go.Shelf
open Slot

set_option maxHeartbeats 4000000 in
set_option maxRecDepth 100000 in
theorem does4 (B b vb : Nat) (F : Nat → Prop) (v : Vw) (O : List (Int × Bs)) (me g cap B1 : Nat) (v2 : Vw) (u : Value) (O2 : List (Int × Bs)) (o : OpB) (w : World) (hk : o.kind = 4) (h : Dk B b vb F v O me g B1 v2 u O2 w) (_hsl : o.s.length ≤ 1048576) :
    Calls Tryz.prog 11 #[.pointer (some ⟨b, 0, none⟩), .agg (rbc me g cap v2.cur u), .agg (opbCells o)] w (DoesP B b vb F v O me v2 O2 o w) := by
  have HDf := hid (df_new w (rbc me g cap v2.cur u) (opbCells o))
  have HW0 := hid (df_below w (rbc me g cap v2.cur u) (opbCells o))
  have HDk := hid (h.call HW0.out)
  have HLt := hid h.bus.lt
  have HTy := hid h.ty
  have HE0 := hid h.env
  have HDoc := hid (fun W (k : Dk B b vb F v O me g B1 v2 u O2 W) => rgive_any me g cap v2.cur v2 o.slot o.n W k.me_ rfl k.nd)
  have HPr := hid (fun W (k : Dk B b vb F v O me g B1 v2 u O2 W) => ugive_any B b vb F v O o.slot o.n W k.bus)
  have HVN : Hid (∀ W e w', REndP me (if giveE o.slot o.n = 0 then ownV v2 o.slot.toNat o.n.toNat else v2) (giveE o.slot o.n) W e w' → REndP me (bGive v2 o.slot o.n) (giveE o.slot o.n) W e w') := fun _ _ _ h => h
  have HRBx : Hid (∀ W : World, W.heap[w.heap.size]? = some (.cells (rbc me g cap v2.cur u) 41 (0, 0)) → W.rangeAt w.heap.size 0 (rvc me g cap v2.cur).toList ∧ W.there w.heap.size 0 3 ∧ ∀ g' c' u', (W.setCells w.heap.size 0 (rvc me g' c' u').toList).heap[w.heap.size]? = some (.cells (rbc me g' c' u' u) 41 (0, 0))) := fun W h => ⟨rbc_range h, put3_there h, fun g' c' u' => put3 h⟩
  have HOu : Hid (∀ c' cu g', (rbc me g' c' cu u).all (·.oneCell') = true) := fun c' cu g' => by
    obtain ⟨a, c, rfl⟩ := out_shape h.out
    exact rbc_one _ _ _ _ _ rfl
  have HSame : Hid (v2 = v → O2 = O → (giveE o.slot o.n) = (giveE o.slot o.n) ∧ (bGive v2 o.slot o.n) = (bGive v o.slot o.n) ∧ (O2) = (O)) := fun h1 h2 => by subst h1 h2; exact ⟨rfl, rfl, rfl⟩
  have HFin : Hid (∀ RC c w' F', BB B w' F' b vb (bGive v o.slot o.n) (O) → Kp F F' w w' → (v2 = v → O2 = O → c = true ∧ DB w' me RC (bGive v o.slot o.n) (O)) → DoesP B b vb F v O me v2 O2 o w (.returned (.tuple #[.agg RC, .bool c])) w') := fun RC c w' F' h1 h2 h3 => does_fin (by unfold bV; simp [hk]) (by unfold bO; simp [hk]) h1 h2 h3
  have HOc := hid (opb_cells o)
  rw [hk] at HOc
  have iRB := infoRB (C := rbc me g cap v2.cur u) rfl
  have HRBe := hid (rfl : rbc me g cap v2.cur u = rbc me g cap v2.cur u)
  obtain ⟨RB, hRB⟩ : ∃ C, rbc me g cap v2.cur u = C := ⟨_, rfl⟩
  have HRB := hid hRB
  rw [hRB] at HDf HW0 HDk HRBx iRB ⊢
  obtain ⟨OC, hOC⟩ : ∃ C, opbCells o = C := ⟨_, rfl⟩
  rw [hOC] at HDf HW0 HDk HOc ⊢
  obtain ⟨aD, haD⟩ : ∃ c, giveE o.slot o.n = c := ⟨_, rfl⟩
  obtain ⟨VD, hVD⟩ : ∃ c, bGive v2 o.slot o.n = c := ⟨_, rfl⟩
  obtain ⟨VP, hVP⟩ : ∃ c, bGive v o.slot o.n = c := ⟨_, rfl⟩
  rw [haD, hVD] at HSame
  rw [hVP] at HSame
  rw [hVP] at HFin
  rw [haD, hVD] at HVN
  rw [haD] at HDoc
  rw [haD, hVP] at HPr
  have i3 : (Tryz.prog.info? 34).map (·.size) = some (rvc me g cap v2.cur).toList.length := infoRV rfl
  have hta : (rvc me g cap v2.cur).toList.toArray = rvc me g cap v2.cur := Array.toArray_toList
  obtain ⟨RV, hRV⟩ : ∃ C, rvc me g cap v2.cur = C := ⟨_, rfl⟩
  rw [hRV] at HDoc HRBx i3 hta
  clear hRV
  clear h _hsl hRB hOC haD hVD hVP iRB HRBe
  go_enter Tryz.func11, Tryz.ntmps11
  go_upto_region 1 with fail
  generalize ((w.alloc (.cells RB 41)).alloc (.cells OC 43)).alloc (.cells #[.int .i64 0, .slice none 0 0, .int .u64 0, .slice none 0 0] 41) = w1 at *
  obtain ⟨k0, k1, k2, k3, k4⟩ := HOc.out w1 _ HDf.out.o
  go_upto_region 16 with fail
  have HDoc1 := hid (HDoc.out w1 HDk.out)
  have hr1 := (HRBx.out _ HDf.out.r).1
  clear HDoc
  go_wp2_with (refine wpList_load_mid rfl 34 _ rfl w.heap.size 0 rfl _ _ hr1 Tryz.underlying34 rfl i3 ?_; rw [hta])
  refine HDoc1.out.mono ?_; rintro r w3 hend
  obtain ⟨g3, cap3, rfl, hN3, hg3, hb3⟩ := HVN.out _ _ _ hend
  clear hr1 hend
  have HN3 := hid hN3
  have HDf3 := hid (HDf.out.below hb3)
  have HDk3 := hid (HDk.out.call hb3)
  have HW3 := hid (HW0.out.trans (hb3.mono HW0.out.size))
  obtain ⟨cu3, hcu3⟩ : ∃ x, VD.cur = x := ⟨_, rfl⟩
  rw [hcu3]
  obtain ⟨R5, hR5⟩ : ∃ C, rvc me g3 cap3 cu3 = C := ⟨_, rfl⟩
  have i5 : (Tryz.prog.info? 34).map (·.size) = some R5.size := by rw [← hR5]; exact infoRV rfl
  have o5 : R5.all (·.oneCell') = true := by rw [← hR5]; exact rvc_one _ _ _ _
  have z5 : (#[.int .i64 0, .slice none 0 0, .int .u64 0] : Array Value).size = R5.size := by rw [← hR5]; rfl
  have HR5e := hid hR5
  have HCu := hid hcu3
  rw [hR5]
  have HZ6 := hid (heap_alloc_new w3 (.cells #[.int .i64 0, .slice none 0 0, .int .u64 0] 34))
  have hb6 := below_setRow (g := w3.heap.size) (below_alloc w3 (.cells #[.int .i64 0, .slice none 0 0, .int .u64 0] 34)) (Nat.le_refl _) R5
  have HV6 := hid (setRow_heap _ _ _ R5 _ _ HZ6.out)
  have HN6 := hid (HN3.out.below hb6 HN3.out.lt)
  have HDf6 := hid (HDf3.out.below hb6)
  have HDk6 := hid (HDk3.out.call hb6)
  have HW6 := hid (HW3.out.trans (hb6.mono HW3.out.size))
  clear hN3 hg3 hb3 hb6 hcu3 hR5 HDf3 HDk3 HW3 HN3 HDoc1 HDf HDk HW0 k0 k1 k2 k3 k4 i3 hta
  go_upto_region 17 with (refine wpList_store_row rfl 34 _ _ rfl w3.heap.size R5 rfl rfl 34 _ HZ6.out i5 z5 o5 ?_)
  clear HZ6
  generalize (w3.alloc (.cells #[.int .i64 0, .slice none 0 0, .int .u64 0] 34)).setRow w3.heap.size R5 = w6 at *
  generalize w3.heap.size = xb at *
  obtain ⟨-, t3, h7⟩ := HRBx.out _ HDf6.out.r
  have h7 := h7 g3 cap3 cu3
  rw [show R5.size = 3 by have h := HR5e.out; rw [← h]; rfl] at i5
  have i5' : (Tryz.prog.info? 34).map (·.size) = some R5.size := by rw [show R5.size = 3 by have h := HR5e.out; rw [← h]; rfl]; exact i5
  have t3' : w6.there w.heap.size 0 R5.size := by rw [show R5.size = 3 by have h := HR5e.out; rw [← h]; rfl]; exact t3
  rw [HR5e.out] at h7
  have hoth : ∀ k, k ≠ w.heap.size → (w6.setCells w.heap.size 0 R5.toList).heap[k]? = w6.heap[k]? := fun k hk => by rw [← HR5e.out]; exact put3_other hk
  have hbl7 : Below w.heap.size w (w6.setCells w.heap.size 0 R5.toList) := by rw [← HR5e.out]; exact put3_below HW6.out (Nat.le_refl _)
  have hsz7 : w6.heap.size ≤ (w6.setCells w.heap.size 0 R5.toList).heap.size := by rw [← HR5e.out]; exact (put3_below (Below.refl 0 w6) (Nat.zero_le _)).size
  have HSb4 := hid h7
  have HDf4 : Hid (Df w (w6.setCells w.heap.size 0 R5.toList) (rbc me g3 cap3 cu3 u) OC) := ⟨h7, (hoth _ (by omega)).trans HDf6.out.o, (hoth _ (by omega)).trans HDf6.out.s⟩
  have hne : g3 ≠ w.heap.size := nd_apart HN6.out HDf6.out.r
  have HD4 : Hid (DB (w6.setCells w.heap.size 0 R5.toList) me (rbc me g3 cap3 cu3 u) VD O2) := ⟨g3, cap3, B1, u, by rw [HCu.out], HN6.out.turn (hoth _ hne), outr_turn HDk6.out.out (fun k C fr hk => hoth k (fun e => by have h2 := HDf6.out.r; rw [e, h2] at hk; injection hk with h1; injection h1 with _ h3; cases h3))⟩
  have HE4 : Hid (Env (w6.setCells w.heap.size 0 R5.toList)) := HE0.out.below (n := w.heap.size) hbl7 HE0.out.room
  have HDk4 : Hid (Dk B b vb F v O me g B1 v2 u O2 (w6.setCells w.heap.size 0 R5.toList)) := by
    have k := HDk6.out
    have hFk : ∀ x, F x → (w6.setCells w.heap.size 0 R5.toList).heap[x]? = w6.heap[x]? := fun x hx => hoth x (fun e => by have := HLt.out x hx; omega)
    refine ⟨k.bus.same hsz7 hFk, fun x hx => ?_, HE4.out, k.b7, k.ok, k.ol, k.me_, k.ok2, ?_, ?_, k.ol2⟩
    · obtain ⟨C, t, fr, e1, e2⟩ := k.ty x hx
      exact ⟨C, t, fr, (hFk x hx).trans e1, e2⟩
    · exact k.nd.turn (hoth _ (nd_apart k.nd HDf6.out.r))
    · exact outr_turn k.out (fun y C fr hk => hoth y (fun e => by have h2 := HDf6.out.r; rw [e, h2] at hk; injection hk with h1; injection h1 with _ h3; cases h3))
  have HW4 := hid hbl7
  have HSbx : Hid (w.heap.size ≤ w.heap.size) := Nat.le_refl _
  have HNe : Hid (w.heap.size ≠ w.heap.size + 2) := by show _ ≠ _; omega
  have hRCs : (rbc me g3 cap3 cu3 u).size = 4 := rfl
  have iRC : (Tryz.prog.info? 41).map (·.size) = some (rbc me g3 cap3 cu3 u).size := infoRB rfl
  have oRC := HOu.out cap3 cu3 g3
  obtain ⟨RC, hRC⟩ : ∃ C, rbc me g3 cap3 cu3 u = C := ⟨_, rfl⟩
  rw [hRC] at HSb4 HDf4 HD4 iRC oRC hRCs
  clear hRC hoth hbl7 hsz7 h7 t3 hne HOu HE4 HRBx
  have iRl : (Tryz.prog.info? 41).map (·.size) = some RC.toList.length := by rw [Array.length_toList]; exact iRC
  have z4 : (#[.int .i64 0, .slice none 0 0, .int .u64 0, .slice none 0 0] : Array Value).size = RC.size := hRCs.symm
  have HS4 := hid hRCs
  clear hRCs
  go_upto_region 18 with (first | (refine wpList_load_row rfl 34 _ rfl xb rfl 34 _ (0, 0) _ HV6.out Tryz.underlying34 rfl i5' ?_) | (refine wpList_store_mid rfl 34 _ _ rfl w.heap.size 0 R5 rfl rfl t3' i5' o5 ?_))
  clear t3' HV6 HDf6 HDk6 HN6 HW6 i5 i5' o5 z5
  generalize w6.setCells w.heap.size 0 R5.toList = w4 at *
  have HS0 : Hid (∀ W : World, W.heap[w.heap.size]? = some (.cells RC 41 (0, 0)) → W.heap[w.heap.size + 1]? = some (.cells OC 43 (0, 0)) → W.rangeAt w.heap.size 0 RC.toList ∧ W.cell? ⟨w.heap.size + 1, 2, none⟩ = some (.int .i64 o.slot) ∧ W.cell? ⟨w.heap.size + 1, 1, none⟩ = some (.int .i64 o.n)) := fun W h1 h2 => by
    obtain ⟨q0, q1, q2, q3, q4⟩ := HOc.out W _ h2
    exact ⟨row_range h1, q2, q1⟩
  have hs0 := HS0.out w4 HSb4.out HDf4.out.o
  have HPr4 := hid (HPr.out w4.drew HDk4.out.drew)
  clear HPr HOc
  refine wp_region_noPanic ?_
  refine wp_region_held_drew (S := fun W => W.rangeAt w.heap.size 0 RC.toList ∧ W.cell? ⟨w.heap.size + 1, 2, none⟩ = some (.int .i64 o.slot) ∧ W.cell? ⟨w.heap.size + 1, 1, none⟩ = some (.int .i64 o.n)) (by kernel_rfl) hs0 (fun hHeld => ?_)
  clear hs0
  have u41 := Tryz.underlying41
  refine wpAnyH_take (i := 0) (oi := { dst := some 106, op := Op.load 41 (Operand.tmp 4), type := 41, pos := "law.go:96", after := #[], guard := none }) (v := .agg RC) rfl (by kernel_rfl) (by kernel_rfl) (by kernel_rfl) (fun _ _ _ h => h) (yieldsIf_load_arr Array.toArray_toList (by rfl) _ _ rfl _ _ rfl (fun _ h => h.1) u41 rfl iRl) (by assumption) ?_
  try simp only [Act.put, List.setIfInBounds_toArray, List.set_cons_zero, List.set_cons_succ]
  refine wpAnyH_take (i := 1) (oi := { dst := some 107, op := Op.move (Operand.tmp 0), type := 28, pos := "law.go:96", after := #[], guard := none }) (v := .pointer (some ⟨b, 0, none⟩)) rfl (by kernel_rfl) (by kernel_rfl) (by kernel_rfl) (fun _ _ _ h => h) (Or.inl ⟨by rfl, fun wS hSw => ?_⟩) (by assumption) ?_
  · clear hHeld
    clear hSw
    go_simp
  try simp only [Act.put, List.setIfInBounds_toArray, List.set_cons_zero, List.set_cons_succ]
  refine wpAnyH_take (i := 2) (oi := { dst := some 108, op := Op.fieldAddr 43 (Operand.tmp 5) 2, type := 0, pos := "law.go:96", after := #[], guard := none }) (v := .pointer (some ⟨w.heap.size + 1, 2, none⟩)) rfl (by kernel_rfl) (by kernel_rfl) (by kernel_rfl) (fun _ _ _ h => h) (Or.inl ⟨by rfl, fun wS hSw => ?_⟩) (by assumption) ?_
  · clear hHeld
    clear hSw
    go_simp
  try simp only [Act.put, List.setIfInBounds_toArray, List.set_cons_zero, List.set_cons_succ]
  refine wpAnyH_take (i := 3) (oi := { dst := some 109, op := Op.load 3 (Operand.tmp 108), type := 3, pos := "law.go:96", after := #[{ on := 2, ground := Ground.data }], guard := none }) (v := .int .i64 o.slot) rfl (by kernel_rfl) (by kernel_rfl) (by kernel_rfl) (fun _ _ _ h => h) (Or.inl ⟨by rfl, fun wS hSw => ?_⟩) (by assumption) ?_
  · clear hHeld
    obtain ⟨s0, s1, s2⟩ := hSw
    go_simp
  try simp only [Act.put, List.setIfInBounds_toArray, List.set_cons_zero, List.set_cons_succ]
  refine wpAnyH_take (i := 4) (oi := { dst := some 110, op := Op.fieldAddr 43 (Operand.tmp 5) 1, type := 0, pos := "law.go:96", after := #[], guard := none }) (v := .pointer (some ⟨w.heap.size + 1, 1, none⟩)) rfl (by kernel_rfl) (by kernel_rfl) (by kernel_rfl) (fun _ _ _ h => h) (Or.inl ⟨by rfl, fun wS hSw => ?_⟩) (by assumption) ?_
  · clear hHeld
    clear hSw
    go_simp
  try simp only [Act.put, List.setIfInBounds_toArray, List.set_cons_zero, List.set_cons_succ]
  refine wpAnyH_take (i := 5) (oi := { dst := some 111, op := Op.load 3 (Operand.tmp 110), type := 3, pos := "law.go:96", after := #[{ on := 4, ground := Ground.data }], guard := none }) (v := .int .i64 o.n) rfl (by kernel_rfl) (by kernel_rfl) (by kernel_rfl) (fun _ _ _ h => h) (Or.inl ⟨by rfl, fun wS hSw => ?_⟩) (by assumption) ?_
  · clear hHeld
    obtain ⟨s0, s1, s2⟩ := hSw
    go_simp
  try simp only [Act.put, List.setIfInBounds_toArray, List.set_cons_zero, List.set_cons_succ]
  refine wpAnyH_take (i := 7) (oi := { dst := some 113, op := Op.move (Operand.tmp 17), type := 29, pos := "law.go:96", after := #[{ on := 9, ground := Ground.gcOnly Departure.lateStores }], guard := none }) (v := .int .i64 aD) rfl (by kernel_rfl) (by kernel_rfl) (by kernel_rfl) (fun _ _ _ h => h) (Or.inl ⟨by rfl, fun wS hSw => ?_⟩) (by assumption) ?_
  · clear hHeld
    clear hSw
    go_simp
  try simp only [Act.put, List.setIfInBounds_toArray, List.set_cons_zero, List.set_cons_succ]
  refine wpAnyH_ready (rs := [6]) (by kernel_rfl) (by simp) ?_
  refine AllReadyH.cons (o := { dst := some 112, op := Op.call { callee := Callee.value (Operand.func 34), args := #[Operand.tmp 107, Operand.tmp 109, Operand.tmp 111], argTypes := #[28, 3, 3] }, type := 29, pos := "law.go:96", after := #[{ on := 1, ground := Ground.data }, { on := 3, ground := Ground.data }, { on := 5, ground := Ground.data }], guard := none }) rfl (fun K hK => ?_) AllReadyH.nil
  clear hHeld
  go_simp
  refine HPr4.out.mono ?_; rintro e w5 ⟨rfl, F5, hB5, hK5⟩
  have HB5 := hid hB5
  have hk5 : Kp F F5 w4 w5 := ⟨⟨hK5.like.os, hK5.like.tape, hK5.like.output, hK5.like.size, hK5.like.block⟩, hK5.block, hK5.foot⟩
  have HK5 := hid ((Kp.of_below (F := F) HW4.out (Nat.le_refl _)).trans hk5)
  have HDf5 := hid (HDf4.out.kp hk5 HLt.out)
  have HD5 := hid (HD4.out.kp HDk4.out.ty hk5)
  have HSb5 : Hid (w5.heap[w.heap.size]? = some (.cells RC 41 (0, 0))) := (hk5.block w.heap.size (Array.getElem?_eq_some_iff.1 HSb4.out).1 (fun c => by have := HLt.out _ c; have := HSbx.out; omega)).trans HSb4.out
  have HNF : Hid (¬ F5 (w.heap.size + 2)) := fun c => by
    have h1 := (Array.getElem?_eq_some_iff.1 HDf4.out.s).1
    rcases hk5.foot _ c with c | c
    · have := HLt.out _ c; omega
    · omega
  clear hB5 hK5 hk5 HPr4 HDf4 HDk4 HD4 HSb4 HW4
  go_wp2_with fail
  refine hK.out _ _ (HS0.out _ HSb5.out HDf5.out.o) (fun hHeld => ?_)
  clear hK K
  try simp only [Act.put, List.setIfInBounds_toArray, List.set_cons_zero, List.set_cons_succ]
  refine wpAnyH_take (i := 8) (oi := { dst := some 114, op := Op.binOp BinOp.eql 29 (Operand.tmp 112) (Operand.tmp 113) 29, type := 4, pos := "law.go:96", after := #[{ on := 6, ground := Ground.data }, { on := 7, ground := Ground.data }, { on := 9, ground := Ground.gcOnly Departure.lateStores }], guard := none }) (v := .bool true) rfl (by kernel_rfl) (by kernel_rfl) (by kernel_rfl) (fun _ _ _ h => h) (Or.inl ⟨by rfl, fun wS hSw => ?_⟩) (by assumption) ?_
  · clear hHeld
    clear hSw
    go_simp
  try simp only [Act.put, List.setIfInBounds_toArray, List.set_cons_zero, List.set_cons_succ]
  refine wpAnyH_ready (rs := [9]) (by kernel_rfl) (by simp) ?_
  refine AllReadyH.cons (o := { dst := none, op := Op.store 41 (Operand.tmp 6) (Operand.tmp 106), type := 0, pos := "law.go:96", after := #[{ on := 0, ground := Ground.data }, { on := 6, ground := Ground.chain }, { on := 0, ground := Ground.phase }, { on := 1, ground := Ground.textOnly Departure.lateStores }, { on := 2, ground := Ground.textOnly Departure.lateStores }, { on := 3, ground := Ground.textOnly Departure.lateStores }, { on := 4, ground := Ground.textOnly Departure.lateStores }, { on := 5, ground := Ground.textOnly Departure.lateStores }, { on := 6, ground := Ground.textOnly Departure.lateStoresUnsure }, { on := 7, ground := Ground.textOnly Departure.lateStores }, { on := 8, ground := Ground.textOnly Departure.lateStores }], guard := none }) rfl (fun K hK => ?_) AllReadyH.nil
  clear hHeld
  rw [if_pos (by rfl)]
  refine wp_store_row 41 _ _ rfl (w.heap.size + 2) RC rfl rfl 41 _ HDf5.out.s iRC z4 oRC ?_
  have HF6 := hid (setRow_heap _ _ _ RC _ _ HDf5.out.s)
  have HE := hid (HFin.out RC true (w5.setRow (w.heap.size + 2) RC) F5 (HB5.out.setRow HNF.out RC) (HK5.out.setRow (by omega) RC) (fun h1 h2 => by
    obtain ⟨-, q2, q3⟩ := HSame.out h1 h2
    refine ⟨?_, ?_⟩
    · rfl
    · rw [← q2, ← q3]
      exact HD5.out.setRow HDf5.out.s))
  have HS6 := hid (HS0.out (w5.setRow (w.heap.size + 2) RC) ((setRow_other _ _ _ _ HNe.out).trans HSb5.out) ((setRow_other _ _ _ _ (by omega)).trans HDf5.out.o))
  refine hK.out _ _ HS6.out (fun hHeld => ?_)
  clear hK K
  simp only [Act.put]
  refine wpAnyH_ready (rs := [10]) (by kernel_rfl) (by simp) ?_
  refine AllReadyH.cons (o := { dst := some 7, op := Op.assign (Operand.tmp 114), type := 4, pos := "law.go:96", after := #[{ on := 8, ground := Ground.data }, { on := 9, ground := Ground.chain }, { on := 0, ground := Ground.phase }, { on := 1, ground := Ground.phase }, { on := 2, ground := Ground.phase }, { on := 3, ground := Ground.phase }, { on := 4, ground := Ground.phase }, { on := 5, ground := Ground.phase }, { on := 6, ground := Ground.phase }, { on := 7, ground := Ground.phase }, { on := 8, ground := Ground.phase }, { on := 9, ground := Ground.phase }], guard := none }) rfl (fun K hK => ?_) AllReadyH.nil
  clear hHeld
  go_simp
  refine hK.out _ _ HS6.out (fun hHeld => ?_)
  clear hK K
  try simp only [Act.put, List.setIfInBounds_toArray, List.set_cons_zero, List.set_cons_succ]
  refine wpAnyH_done (by kernel_rfl) ?_ _
  refine NoPanic.normal ?_
  clear hHeld
  go_wp2_with fail
  refine bodyPost_ret (v := .tuple #[.agg RC, .bool true]) ?_ rfl ?_
  · exact ret_rb2 rfl HS4.out rfl rfl HF6.out
  exact HE.out

end Go.Proofs.YtbfllifgmlkndaaGreatDoor
