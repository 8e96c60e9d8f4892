/- BlDo9, BlAlike, OpenB. -/
import Derived.Test.YtbfllifgmlkndaaGreatDoorM41
import Derived.Test.YtbfllifgmlkndaaGreatDoorM40
import Derived.Test.YtbfllifgmlkndaaGreatDoorM30
import Derived.Test.YtbfllifgmlkndaaGreatDoorRows
import Derived.Deep.Slices
import Derived.ChangeArms
import Derived.ProofKit
import Derived.OpenShut
import Derived.Test.YtbfllifgmlkndaaGreatDoorM17
namespace Go.Proofs.YtbfllifgmlkndaaGreatDoor
open Go.RowKit Go.Shelf
open Slot

set_option maxHeartbeats 4000000 in
set_option maxRecDepth 100000 in
theorem does9 (B b vb : Nat) (F : Nat → Prop) (v : Vw) (O : List (Int × Bs)) (me g cap B1 : Nat) (v2 : Vw) (u : Value) (O2 : List (Int × Bs)) (o : OpB) (w : World) (hk : ¬ o.kind = 0 ∧ ¬ o.kind = 1 ∧ ¬ o.kind = 2 ∧ ¬ o.kind = 3 ∧ ¬ o.kind = 4 ∧ ¬ o.kind = 5) (h : Dk B b vb F v O me g B1 v2 u O2 w) :
    Calls Tryz.prog 11 #[.pointer (some ⟨b, 0, none⟩), .agg (rbc me g cap v2.cur u), .agg (opbCells o)] w (DoesP B b vb F v O me v2 O2 o w) := by
  have HDf := hid (df_new w (rbc me g cap v2.cur u) (opbCells o))
  have HW0 := hid (df_below w (rbc me g cap v2.cur u) (opbCells o))
  have HDk := hid (h.call HW0.out)
  have HLt := hid h.bus.lt
  have HTy := hid h.ty
  obtain ⟨n0, n1, n2, n3, n4, n5⟩ := hk
  have HFin : Hid (∀ RC c w' F', BB B w' F' b vb v O → Kp F F' w w' → (v2 = v → O2 = O → c = true ∧ DB w' me RC v O) → DoesP B b vb F v O me v2 O2 o w (.returned (.tuple #[.agg RC, .bool c])) w') := fun RC c w' F' h1 h2 h3 => does_fin (by unfold bV; simp [n2, n3, n4]) (by unfold bO; simp [n0, n1, n2, n5]) h1 h2 h3
  have HOc := hid (opb_cells o)
  have hD : DB w me (rbc me g cap v2.cur u) v2 O2 := ⟨g, cap, B1, u, rfl, h.nd, h.out⟩
  obtain ⟨hRCs, oRC, iRC⟩ := hD.one
  have HD0 := hid (hD.call HW0.out)
  have m0 : (o.kind == 0) = false := beq_eq_false_iff_ne.2 n0
  have m1 : (o.kind == 1) = false := beq_eq_false_iff_ne.2 n1
  have m2 : (o.kind == 2) = false := beq_eq_false_iff_ne.2 n2
  have m3 : (o.kind == 3) = false := beq_eq_false_iff_ne.2 n3
  have m4 : (o.kind == 4) = false := beq_eq_false_iff_ne.2 n4
  have m5 : (o.kind == 5) = false := beq_eq_false_iff_ne.2 n5
  obtain ⟨kd, hkd⟩ : ∃ k, o.kind = k := ⟨_, rfl⟩
  rw [hkd] at m0 m1 m2 m3 m4 m5 HOc
  obtain ⟨OC, hOC⟩ : ∃ C, opbCells o = C := ⟨_, rfl⟩
  rw [hOC] at HDf HW0 HDk HD0 HOc ⊢
  obtain ⟨RC, hRC⟩ : ∃ C, rbc me g cap v2.cur u = C := ⟨_, rfl⟩
  rw [hRC] at HDf HW0 HDk HD0 hRCs oRC iRC ⊢
  have z4 : (#[.int .i64 0, .slice none 0 0, .int .u64 0, .slice none 0 0] : Array Value).size = RC.size := hRCs.symm
  have HS4 := hid hRCs
  clear h hD hRC hOC hkd n0 n1 n2 n3 n4 n5 hRCs
  go_enter Tryz.func11, Tryz.ntmps11
  go_upto_region 1 with fail
  generalize ((w.alloc (.cells RC 41)).alloc (.cells OC 43)).alloc (.cells #[.int .i64 0, .slice none 0 0, .int .u64 0, .slice none 0 0] 41) = w1 at *
  obtain ⟨k0, k1, k2, k3, k4⟩ := HOc.out w1 _ HDf.out.o
  have HR1 := hid HDf.out.r
  have HS1 := hid HDf.out.s
  have HNF : Hid (¬ F (w.heap.size + 2)) := fun c => by have := HLt.out _ c; omega
  have HE := hid (HFin.out RC true (w1.setRow (w.heap.size + 2) RC) F (HDk.out.bus.setRow HNF.out RC) ((Kp.of_below (F := F) HW0.out (Nat.le_refl _)).setRow (by omega) RC) (fun h1 h2 => ⟨rfl, by
    have := HD0.out.setRow (C := RC) HDf.out.s
    rwa [h1, h2] at this⟩))
  have HF6 := hid (setRow_heap _ _ _ RC _ _ HS1.out)
  clear HDf HDk HD0 HW0 HOc k1 k2 k3 k4
  go_wp2_with (first | (refine wpList_load_row rfl 41 _ rfl w.heap.size rfl 41 _ (0, 0) _ HR1.out Tryz.underlying41 rfl iRC ?_) | (refine wpList_store_row rfl 41 _ _ rfl (w.heap.size + 2) RC rfl rfl 41 _ HS1.out iRC z4 oRC ?_))
  refine bodyPost_ret (v := .tuple #[.agg RC, .bool true]) ?_ rfl ?_
  · exact ret_rb2 rfl HS4.out rfl rfl HF6.out
  exact HE.out

end Go.Proofs.YtbfllifgmlkndaaGreatDoor

namespace Go.Proofs.YtbfllifgmlkndaaGreatDoor
open Go.RowKit Go.Shelf
open Slot

/-- alike, on its way -/
structure Sd (W : World) (rs b g cap : Nat) (v : Vw) : Prop where
  vb : VB W b v
  rv : RVb W rs v.self g cap v.cur
  nd : Nd W g v.ep v.cl
theorem Sd.call {W W' : World} {rs b g cap : Nat} {v : Vw} (h : Sd W rs b g cap v) (hb : Below W.heap.size W W') : Sd W' rs b g cap v :=
  ⟨h.vb.below hb h.vb.lt, h.rv.below hb h.rv.lt, h.nd.below hb h.nd.lt⟩
theorem Sd.drew {W : World} {rs b g cap : Nat} {v : Vw} (h : Sd W rs b g cap v) : Sd W.drew rs b g cap v := ⟨h.vb.turn rfl, h.rv, h.nd.turn rfl⟩
theorem sd_new {w : World} {b g cap : Nat} {v : Vw} (hV : VB w b v) (hN : Nd w g v.ep v.cl) : Sd (w.alloc (.cells (rvc v.self g cap v.cur) 34)) w.heap.size b g cap v :=
  ⟨hV.below (below_alloc w _) hV.lt, heap_alloc_new w _, hN.below (below_alloc w _) hN.lt⟩
/-- what region 1 reads -/
def S1 (rs me g cap cu : Nat) (W : World) : Prop := W.cell? ⟨rs, 0, none⟩ = some (.int .i64 (me : Int)) ∧ W.cell? ⟨rs, 1, none⟩ = some (.slice (some ⟨g, 0, none⟩) 64 cap) ∧ W.cell? ⟨rs, 2, none⟩ = some (.int .u64 (cu : Int))
theorem Sd.s1 {W : World} {rs b g cap me cu : Nat} {v : Vw} (h : Sd W rs b g cap v) (hm : v.self = me) (hc : v.cur = cu) : S1 rs me g cap cu W := by
  subst hm hc
  exact rv_cells h.rv
/-- what region 6 reads -/
def S6 (rs g cap k x : Nat) (CX : Array Value) (W : World) : Prop := W.cell? ⟨rs, 1, none⟩ = some (.slice (some ⟨g, 0, none⟩) 64 cap) ∧ W.cell? ⟨g, k * 257, none⟩ = some (.int .u64 (x : Int)) ∧ W.rangeAt g (k * 257 + 1) CX.toList
theorem Sd.s6 {W : World} {rs b g cap k x : Nat} {v : Vw} {CX : Array Value} (h : Sd W rs b g cap v) (hk : k < 64) (hx : v.ep k = x) (hC : cellsOf (v.cl k) = CX) : S6 rs g cap k x CX W := by
  subst hx hC
  exact ⟨(rv_cells h.rv).2.1, h.nd.ep hk, h.nd.cl_range hk⟩
set_option maxHeartbeats 4000000 in
set_option maxRecDepth 100000 in
theorem alike_any (b g cap : Nat) (v : Vw) (w : World) (hV : VB w b v) (hN : Nd w g v.ep v.cl) : Calls Tryz.prog 14 #[.pointer (some ⟨b, 0, none⟩), .agg (rvc v.self g cap v.cur)] w fun e w' => e = .returned (.bool true) ∧ Below w.heap.size w w' := by
  have HD0 := hid (sd_new (cap := cap) hV hN)
  have HW0 := hid (below_alloc w (.cells (rvc v.self g cap v.cur) 34))
  have HSf := hid (fun W h => self_any b v W h)
  have HCu := hid (fun W h => current_any b v W h)
  obtain ⟨me, hme⟩ : ∃ m, v.self = m := ⟨_, rfl⟩
  obtain ⟨cu, hcu⟩ : ∃ m, v.cur = m := ⟨_, rfl⟩
  have HS1 := hid (fun W (h : Sd W w.heap.size b g cap v) => h.s1 hme hcu)
  rw [hme] at HSf
  rw [hcu] at HCu
  obtain ⟨RC, hRC⟩ : ∃ C, rvc v.self g cap v.cur = C := ⟨_, rfl⟩
  rw [hRC] at HD0 HW0 ⊢
  clear hV hN hRC hme hcu
  go_enter Tryz.func14, Tryz.ntmps14
  go_upto_region 1 with fail
  generalize hw1 : w.alloc (.cells RC 34) = w1 at *
  generalize hrs : w.heap.size = rs at HD0 HS1 ⊢
  have HRs := hid hrs
  clear hw1 hrs

  go_cut [21] (fun c wx => c = .bool false ∧ Hid (Sd wx rs b g cap v) ∧ Hid (Below w.heap.size w wx))
  case first =>
    refine wp_region_held_drew (S := S1 rs me g cap cu) (by kernel_rfl) (HS1.out _ HD0.out.drew) (fun hHeld => ?_)

    refine wpAnyH_take (i := 0) (oi := { dst := some 6, op := Op.move (Operand.tmp 0), type := 50, pos := "law.go:66", after := #[], guard := none }) (v := .pointer (some ⟨b, 0, none⟩)) rfl (by kernel_rfl) (by kernel_rfl) (by kernel_rfl) (fun _ _ _ h => h) (Or.inl ⟨by rfl, fun wS hSw => ?_⟩) (by assumption) ?_
    · clear hHeld
      clear hSw
      go_simp
    try simp only [Act.put, List.setIfInBounds_toArray, List.set_cons_zero, List.set_cons_succ]
    refine wpAnyH_take (i := 1) (oi := { dst := some 7, op := Op.binOp BinOp.eql 50 (Operand.tmp 6) (Operand.const (Value.pointer none)) 50, type := 4, pos := "law.go:66", after := #[{ on := 0, ground := Ground.data }], guard := none }) (v := .bool false) rfl (by kernel_rfl) (by kernel_rfl) (by kernel_rfl) (fun _ _ _ h => h) (Or.inl ⟨by rfl, fun wS hSw => ?_⟩) (by assumption) ?_
    · clear hHeld
      clear hSw
      go_simp
    try simp only [Act.put, List.setIfInBounds_toArray, List.set_cons_zero, List.set_cons_succ]
    refine wpAnyH_take (i := 2) (oi := { dst := some 8, op := Op.move (Operand.tmp 7), type := 4, pos := "law.go:66", after := #[{ on := 1, ground := Ground.data }], guard := none }) (v := .bool false) rfl (by kernel_rfl) (by kernel_rfl) (by kernel_rfl) (fun _ _ _ h => h) (Or.inl ⟨by rfl, fun wS hSw => ?_⟩) (by assumption) ?_
    · clear hHeld
      clear hSw
      go_simp
    try simp only [Act.put, List.setIfInBounds_toArray, List.set_cons_zero, List.set_cons_succ]
    refine wpAnyH_take (i := 3) (oi := { dst := some 9, op := Op.move (Operand.tmp 0), type := 50, pos := "law.go:66", after := #[{ on := 2, ground := Ground.guard }], guard := some (2, false) }) (v := .pointer (some ⟨b, 0, none⟩)) rfl (by kernel_rfl) (by kernel_rfl) (by kernel_rfl) (fun _ _ _ h => h) (Or.inl ⟨by rfl, fun wS hSw => ?_⟩) (by assumption) ?_
    · clear hHeld
      clear hSw
      go_simp
    try simp only [Act.put, List.setIfInBounds_toArray, List.set_cons_zero, List.set_cons_succ]
    refine wpAnyH_take (i := 5) (oi := { dst := some 11, op := Op.fieldAddr 34 (Operand.tmp 3) 2, type := 0, pos := "law.go:66", after := #[{ on := 2, ground := Ground.guard }], guard := some (2, false) }) (v := .pointer (some ⟨rs, 2, none⟩)) rfl (by kernel_rfl) (by kernel_rfl) (by kernel_rfl) (fun _ _ _ h => h) (Or.inl ⟨by rfl, fun wS hSw => ?_⟩) (by assumption) ?_
    · clear hHeld
      clear hSw
      go_simp
    try simp only [Act.put, List.setIfInBounds_toArray, List.set_cons_zero, List.set_cons_succ]
    refine wpAnyH_take (i := 6) (oi := { dst := some 12, op := Op.load 22 (Operand.tmp 11), type := 22, pos := "law.go:66", after := #[{ on := 5, ground := Ground.data }, { on := 2, ground := Ground.guard }], guard := some (2, false) }) (v := .int .u64 (cu : Int)) rfl (by kernel_rfl) (by kernel_rfl) (by kernel_rfl) (fun _ _ _ h => h) (Or.inl ⟨by rfl, fun wS hSw => ?_⟩) (by assumption) ?_
    · clear hHeld
      obtain ⟨s0, s1, s2⟩ := hSw
      go_simp
    try simp only [Act.put, List.setIfInBounds_toArray, List.set_cons_zero, List.set_cons_succ]
    refine wpAnyH_ready (rs := [4]) (by kernel_rfl) (by simp) ?_
    refine AllReadyH.cons (o := { dst := some 10, op := Op.call { callee := Callee.value (Operand.func 18), args := #[Operand.tmp 9], argTypes := #[50] }, type := 22, pos := "law.go:66", after := #[{ on := 3, ground := Ground.data }, { on := 2, ground := Ground.chain }, { on := 2, ground := Ground.guard }], guard := some (2, false) }) rfl (fun K hK => ?_) AllReadyH.nil
    clear hHeld
    go_simp
    refine (HCu.out _ HD0.out.drew.vb).mono ?_; rintro e w2 ⟨rfl, rfl⟩
    go_wp2_with fail
    refine hK.out _ _ (HS1.out _ HD0.out.drew) (fun hHeld => ?_)
    clear hK K
    try simp only [Act.put, List.setIfInBounds_toArray, List.set_cons_zero, List.set_cons_succ]
    refine wpAnyH_take (i := 7) (oi := { dst := some 13, op := Op.binOp BinOp.neq 22 (Operand.tmp 10) (Operand.tmp 12) 22, type := 4, pos := "law.go:66", after := #[{ on := 4, ground := Ground.data }, { on := 6, ground := Ground.data }, { on := 2, ground := Ground.guard }], guard := some (2, false) }) (v := .bool false) rfl (by kernel_rfl) (by kernel_rfl) (by kernel_rfl) (fun _ _ _ h => h) (Or.inl ⟨by rfl, fun wS hSw => ?_⟩) (by assumption) ?_
    · clear hHeld
      clear hSw
      go_simp
    try simp only [Act.put, List.setIfInBounds_toArray, List.set_cons_zero, List.set_cons_succ]
    refine wpAnyH_take (i := 8) (oi := { dst := some 14, op := Op.pick (Operand.tmp 8) (Operand.const (Value.bool true)) (Operand.tmp 13), type := 4, pos := "law.go:66", after := #[{ on := 2, ground := Ground.data }, { on := 7, ground := Ground.data }], guard := none }) (v := .bool false) rfl (by kernel_rfl) (by kernel_rfl) (by kernel_rfl) (fun _ _ _ h => h) (Or.inl ⟨by rfl, fun wS hSw => ?_⟩) (by assumption) ?_
    · clear hHeld
      clear hSw
      go_simp
    try simp only [Act.put, List.setIfInBounds_toArray, List.set_cons_zero, List.set_cons_succ]
    refine wpAnyH_take (i := 9) (oi := { dst := some 15, op := Op.move (Operand.tmp 14), type := 4, pos := "law.go:66", after := #[{ on := 8, ground := Ground.data }, { on := 4, ground := Ground.chain }], guard := none }) (v := .bool false) rfl (by kernel_rfl) (by kernel_rfl) (by kernel_rfl) (fun _ _ _ h => h) (Or.inl ⟨by rfl, fun wS hSw => ?_⟩) (by assumption) ?_
    · clear hHeld
      clear hSw
      go_simp
    try simp only [Act.put, List.setIfInBounds_toArray, List.set_cons_zero, List.set_cons_succ]
    refine wpAnyH_take (i := 10) (oi := { dst := some 16, op := Op.move (Operand.tmp 0), type := 50, pos := "law.go:66", after := #[{ on := 9, ground := Ground.guard }], guard := some (9, false) }) (v := .pointer (some ⟨b, 0, none⟩)) rfl (by kernel_rfl) (by kernel_rfl) (by kernel_rfl) (fun _ _ _ h => h) (Or.inl ⟨by rfl, fun wS hSw => ?_⟩) (by assumption) ?_
    · clear hHeld
      clear hSw
      go_simp
    try simp only [Act.put, List.setIfInBounds_toArray, List.set_cons_zero, List.set_cons_succ]
    refine wpAnyH_take (i := 12) (oi := { dst := some 18, op := Op.fieldAddr 34 (Operand.tmp 3) 0, type := 0, pos := "law.go:66", after := #[{ on := 9, ground := Ground.guard }], guard := some (9, false) }) (v := .pointer (some ⟨rs, 0, none⟩)) rfl (by kernel_rfl) (by kernel_rfl) (by kernel_rfl) (fun _ _ _ h => h) (Or.inl ⟨by rfl, fun wS hSw => ?_⟩) (by assumption) ?_
    · clear hHeld
      clear hSw
      go_simp
    try simp only [Act.put, List.setIfInBounds_toArray, List.set_cons_zero, List.set_cons_succ]
    refine wpAnyH_take (i := 13) (oi := { dst := some 19, op := Op.load 3 (Operand.tmp 18), type := 3, pos := "law.go:66", after := #[{ on := 12, ground := Ground.data }, { on := 9, ground := Ground.guard }], guard := some (9, false) }) (v := .int .i64 (me : Int)) rfl (by kernel_rfl) (by kernel_rfl) (by kernel_rfl) (fun _ _ _ h => h) (Or.inl ⟨by rfl, fun wS hSw => ?_⟩) (by assumption) ?_
    · clear hHeld
      obtain ⟨s0, s1, s2⟩ := hSw
      go_simp
    try simp only [Act.put, List.setIfInBounds_toArray, List.set_cons_zero, List.set_cons_succ]
    refine wpAnyH_ready (rs := [11]) (by kernel_rfl) (by simp) ?_
    refine AllReadyH.cons (o := { dst := some 17, op := Op.call { callee := Callee.value (Operand.func 35), args := #[Operand.tmp 16], argTypes := #[50] }, type := 3, pos := "law.go:66", after := #[{ on := 10, ground := Ground.data }, { on := 9, ground := Ground.chain }, { on := 9, ground := Ground.guard }], guard := some (9, false) }) rfl (fun K hK => ?_) AllReadyH.nil
    clear hHeld
    go_simp
    refine (HSf.out _ HD0.out.drew.vb).mono ?_; rintro e w2 ⟨rfl, rfl⟩
    go_wp2_with fail
    refine hK.out _ _ (HS1.out _ HD0.out.drew) (fun hHeld => ?_)
    clear hK K
    try simp only [Act.put, List.setIfInBounds_toArray, List.set_cons_zero, List.set_cons_succ]
    refine wpAnyH_take (i := 14) (oi := { dst := some 20, op := Op.binOp BinOp.neq 3 (Operand.tmp 17) (Operand.tmp 19) 3, type := 4, pos := "law.go:66", after := #[{ on := 11, ground := Ground.data }, { on := 13, ground := Ground.data }, { on := 9, ground := Ground.guard }], guard := some (9, false) }) (v := .bool false) rfl (by kernel_rfl) (by kernel_rfl) (by kernel_rfl) (fun _ _ _ h => h) (Or.inl ⟨by rfl, fun wS hSw => ?_⟩) (by assumption) ?_
    · clear hHeld
      clear hSw
      go_simp
    try simp only [Act.put, List.setIfInBounds_toArray, List.set_cons_zero, List.set_cons_succ]
    refine wpAnyH_take (i := 15) (oi := { dst := some 21, op := Op.pick (Operand.tmp 15) (Operand.const (Value.bool true)) (Operand.tmp 20), type := 4, pos := "law.go:66", after := #[{ on := 9, ground := Ground.data }, { on := 14, ground := Ground.data }], guard := none }) (v := .bool false) rfl (by kernel_rfl) (by kernel_rfl) (by kernel_rfl) (fun _ _ _ h => h) (Or.inl ⟨by rfl, fun wS hSw => ?_⟩) (by assumption) ?_
    · clear hHeld
      clear hSw
      go_simp
    try simp only [Act.put, List.setIfInBounds_toArray, List.set_cons_zero, List.set_cons_succ]
    refine wpAnyH_done (by kernel_rfl) ?_ _
    clear hHeld
    go_wp2_with fail
    go_meet
    exact ⟨rfl, HD0.out.drew, HW0.out.drew⟩

  case rest =>
  obtain ⟨rfl, HD1, HW1⟩ := hcut
  clear HD0 HW0 HSf HCu HS1
  generalize wc = w5 at *
  go_wp2_with fail
  go_loopw [22] (fun c wr => ∃ k : Nat, c = .int .i64 (k : Int) ∧ k ≤ 64 ∧ Hid (Sd wr rs b g cap v) ∧ Hid (Below w.heap.size w wr)) (fun i _ => 64 - (intOf i).toNat)
  case atStart => exact ⟨0, rfl, Nat.zero_le _, HD1.out, HW1.out⟩
  case round =>
    clear HD1 HW1
    obtain ⟨k, rfl, hk, HD, HW⟩ := hrel
    by_cases hlt : k < 64
    · have hkz : (k : Int) < 64 := by omega
      have HEp : Hid (∀ W, VB W b v → Calls Tryz.prog 19 #[.pointer (some ⟨b, 0, none⟩), .int .i64 (k : Int)] W fun e w' => e = .returned (.int .u64 (v.ep k : Int)) ∧ w' = W) := fun W h => by
        have := epoch_any b v (k : Int) W h
        rwa [epI_in v hlt] at this
      have HCl : Hid (∀ W, VB W b v → Calls Tryz.prog 20 #[.pointer (some ⟨b, 0, none⟩), .int .i64 (k : Int)] W fun e w' => e = .returned (.agg (cellsOf (v.cl k))) ∧ Below W.heap.size W w') := fun W h => by
        have := claims_any b v (k : Int) W h
        rwa [clsI_in v hlt] at this
      have HEq := hid (fun w => eq_bits (v.cl k) (v.cl k) w)
      rw [(sameB_iff _ _).2 (fun _ _ => rfl)] at HEq
      have iC := infoBl (S := v.cl k)
      obtain ⟨x, hx⟩ : ∃ x, v.ep k = x := ⟨_, rfl⟩
      obtain ⟨CX, hCX⟩ : ∃ x, cellsOf (v.cl k) = x := ⟨_, rfl⟩
      have HS6 := hid (fun W (h : Sd W rs b g cap v) => h.s6 hlt hx hCX)
      rw [hx] at HEp
      rw [hCX] at HCl HEq iC
      clear hx hCX
      go_upto_region 6 with fail
      have u24 := Tryz.underlying24
      refine wp_region_held_drew (S := S6 rs g cap k x CX) (by kernel_rfl) (HS6.out _ HD.out.drew) (fun hHeld => ?_)

      refine wpAnyH_take (i := 0) (oi := { dst := some 25, op := Op.move (Operand.tmp 0), type := 50, pos := "law.go:70", after := #[], guard := none }) (v := .pointer (some ⟨b, 0, none⟩)) rfl (by kernel_rfl) (by kernel_rfl) (by kernel_rfl) (fun _ _ _ h => h) (Or.inl ⟨by rfl, fun wS hSw => ?_⟩) (by assumption) ?_
      · clear hHeld
        clear hSw
        go_simp
      try simp only [Act.put, List.setIfInBounds_toArray, List.set_cons_zero, List.set_cons_succ]
      refine wpAnyH_take (i := 1) (oi := { dst := some 26, op := Op.move (Operand.tmp 5), type := 3, pos := "law.go:70", after := #[], guard := none }) (v := .int .i64 (k : Int)) rfl (by kernel_rfl) (by kernel_rfl) (by kernel_rfl) (fun _ _ _ h => h) (Or.inl ⟨by rfl, fun wS hSw => ?_⟩) (by assumption) ?_
      · clear hHeld
        clear hSw
        go_simp
      try simp only [Act.put, List.setIfInBounds_toArray, List.set_cons_zero, List.set_cons_succ]
      refine wpAnyH_take (i := 3) (oi := { dst := some 28, op := Op.fieldAddr 34 (Operand.tmp 3) 1, type := 0, pos := "law.go:70", after := #[], guard := none }) (v := .pointer (some ⟨rs, 1, none⟩)) rfl (by kernel_rfl) (by kernel_rfl) (by kernel_rfl) (fun _ _ _ h => h) (Or.inl ⟨by rfl, fun wS hSw => ?_⟩) (by assumption) ?_
      · clear hHeld
        clear hSw
        go_simp
      try simp only [Act.put, List.setIfInBounds_toArray, List.set_cons_zero, List.set_cons_succ]
      refine wpAnyH_take (i := 4) (oi := { dst := some 29, op := Op.load 32 (Operand.tmp 28), type := 32, pos := "law.go:70", after := #[{ on := 3, ground := Ground.data }], guard := none }) (v := .slice (some ⟨g, 0, none⟩) 64 cap) rfl (by kernel_rfl) (by kernel_rfl) (by kernel_rfl) (fun _ _ _ h => h) (Or.inl ⟨by rfl, fun wS hSw => ?_⟩) (by assumption) ?_
      · clear hHeld
        obtain ⟨s0, s1, s2⟩ := hSw
        go_simp
      try simp only [Act.put, List.setIfInBounds_toArray, List.set_cons_zero, List.set_cons_succ]
      refine wpAnyH_take (i := 5) (oi := { dst := some 30, op := Op.move (Operand.tmp 5), type := 3, pos := "law.go:70", after := #[], guard := none }) (v := .int .i64 (k : Int)) rfl (by kernel_rfl) (by kernel_rfl) (by kernel_rfl) (fun _ _ _ h => h) (Or.inl ⟨by rfl, fun wS hSw => ?_⟩) (by assumption) ?_
      · clear hHeld
        clear hSw
        go_simp
      try simp only [Act.put, List.setIfInBounds_toArray, List.set_cons_zero, List.set_cons_succ]
      refine wpAnyH_take (i := 6) (oi := { dst := some 31, op := Op.indexAddr 32 (Operand.tmp 29) (Operand.tmp 30), type := 0, pos := "law.go:70", after := #[{ on := 4, ground := Ground.data }, { on := 5, ground := Ground.data }], guard := none }) (v := .pointer (some ⟨g, k * 257, none⟩)) rfl (by kernel_rfl) (by kernel_rfl) (by kernel_rfl) (fun _ _ _ h => h) (Or.inl ⟨by rfl, fun wS hSw => ?_⟩) (by assumption) ?_
      · clear hHeld
        clear hSw
        go_simp
      try simp only [Act.put, List.setIfInBounds_toArray, List.set_cons_zero, List.set_cons_succ]
      refine wpAnyH_take (i := 7) (oi := { dst := some 32, op := Op.fieldAddr 79 (Operand.tmp 31) 0, type := 0, pos := "law.go:70", after := #[{ on := 6, ground := Ground.data }], guard := none }) (v := .pointer (some ⟨g, k * 257, none⟩)) rfl (by kernel_rfl) (by kernel_rfl) (by kernel_rfl) (fun _ _ _ h => h) (Or.inl ⟨by rfl, fun wS hSw => ?_⟩) (by assumption) ?_
      · clear hHeld
        clear hSw
        go_simp
      try simp only [Act.put, List.setIfInBounds_toArray, List.set_cons_zero, List.set_cons_succ]
      refine wpAnyH_take (i := 8) (oi := { dst := some 33, op := Op.load 22 (Operand.tmp 32), type := 22, pos := "law.go:70", after := #[{ on := 7, ground := Ground.data }], guard := none }) (v := .int .u64 (x : Int)) rfl (by kernel_rfl) (by kernel_rfl) (by kernel_rfl) (fun _ _ _ h => h) (Or.inl ⟨by rfl, fun wS hSw => ?_⟩) (by assumption) ?_
      · clear hHeld
        obtain ⟨s0, s1, s2⟩ := hSw
        go_simp
      try simp only [Act.put, List.setIfInBounds_toArray, List.set_cons_zero, List.set_cons_succ]
      refine wpAnyH_ready (rs := [2]) (by kernel_rfl) (by simp) ?_
      refine AllReadyH.cons (o := { dst := some 27, op := Op.call { callee := Callee.value (Operand.func 19), args := #[Operand.tmp 25, Operand.tmp 26], argTypes := #[50, 3] }, type := 22, pos := "law.go:70", after := #[{ on := 0, ground := Ground.data }, { on := 1, ground := Ground.data }], guard := none }) rfl (fun K hK => ?_) AllReadyH.nil
      clear hHeld
      go_simp
      refine (HEp.out _ HD.out.drew.vb).mono ?_; rintro e w2 ⟨rfl, rfl⟩
      go_wp2_with fail
      refine hK.out _ _ (HS6.out _ HD.out.drew) (fun hHeld => ?_)
      clear hK K
      try simp only [Act.put, List.setIfInBounds_toArray, List.set_cons_zero, List.set_cons_succ]
      refine wpAnyH_take (i := 9) (oi := { dst := some 34, op := Op.binOp BinOp.neq 22 (Operand.tmp 27) (Operand.tmp 33) 22, type := 4, pos := "law.go:70", after := #[{ on := 2, ground := Ground.data }, { on := 8, ground := Ground.data }], guard := none }) (v := .bool false) rfl (by kernel_rfl) (by kernel_rfl) (by kernel_rfl) (fun _ _ _ h => h) (Or.inl ⟨by rfl, fun wS hSw => ?_⟩) (by assumption) ?_
      · clear hHeld
        clear hSw
        go_simp
      try simp only [Act.put, List.setIfInBounds_toArray, List.set_cons_zero, List.set_cons_succ]
      refine wpAnyH_take (i := 10) (oi := { dst := some 35, op := Op.move (Operand.tmp 34), type := 4, pos := "law.go:70", after := #[{ on := 9, ground := Ground.data }, { on := 2, ground := Ground.chain }], guard := none }) (v := .bool false) rfl (by kernel_rfl) (by kernel_rfl) (by kernel_rfl) (fun _ _ _ h => h) (Or.inl ⟨by rfl, fun wS hSw => ?_⟩) (by assumption) ?_
      · clear hHeld
        clear hSw
        go_simp
      try simp only [Act.put, List.setIfInBounds_toArray, List.set_cons_zero, List.set_cons_succ]
      refine wpAnyH_take (i := 11) (oi := { dst := some 36, op := Op.move (Operand.tmp 0), type := 50, pos := "law.go:70", after := #[{ on := 10, ground := Ground.guard }], guard := some (10, false) }) (v := .pointer (some ⟨b, 0, none⟩)) rfl (by kernel_rfl) (by kernel_rfl) (by kernel_rfl) (fun _ _ _ h => h) (Or.inl ⟨by rfl, fun wS hSw => ?_⟩) (by assumption) ?_
      · clear hHeld
        clear hSw
        go_simp
      try simp only [Act.put, List.setIfInBounds_toArray, List.set_cons_zero, List.set_cons_succ]
      refine wpAnyH_take (i := 12) (oi := { dst := some 37, op := Op.move (Operand.tmp 5), type := 3, pos := "law.go:70", after := #[{ on := 10, ground := Ground.guard }], guard := some (10, false) }) (v := .int .i64 (k : Int)) rfl (by kernel_rfl) (by kernel_rfl) (by kernel_rfl) (fun _ _ _ h => h) (Or.inl ⟨by rfl, fun wS hSw => ?_⟩) (by assumption) ?_
      · clear hHeld
        clear hSw
        go_simp
      try simp only [Act.put, List.setIfInBounds_toArray, List.set_cons_zero, List.set_cons_succ]
      refine wpAnyH_take (i := 14) (oi := { dst := some 39, op := Op.fieldAddr 34 (Operand.tmp 3) 1, type := 0, pos := "law.go:70", after := #[{ on := 10, ground := Ground.guard }], guard := some (10, false) }) (v := .pointer (some ⟨rs, 1, none⟩)) rfl (by kernel_rfl) (by kernel_rfl) (by kernel_rfl) (fun _ _ _ h => h) (Or.inl ⟨by rfl, fun wS hSw => ?_⟩) (by assumption) ?_
      · clear hHeld
        clear hSw
        go_simp
      try simp only [Act.put, List.setIfInBounds_toArray, List.set_cons_zero, List.set_cons_succ]
      refine wpAnyH_take (i := 15) (oi := { dst := some 40, op := Op.load 32 (Operand.tmp 39), type := 32, pos := "law.go:70", after := #[{ on := 14, ground := Ground.data }, { on := 10, ground := Ground.guard }], guard := some (10, false) }) (v := .slice (some ⟨g, 0, none⟩) 64 cap) rfl (by kernel_rfl) (by kernel_rfl) (by kernel_rfl) (fun _ _ _ h => h) (Or.inl ⟨by rfl, fun wS hSw => ?_⟩) (by assumption) ?_
      · clear hHeld
        obtain ⟨s0, s1, s2⟩ := hSw
        go_simp
      try simp only [Act.put, List.setIfInBounds_toArray, List.set_cons_zero, List.set_cons_succ]
      refine wpAnyH_take (i := 16) (oi := { dst := some 41, op := Op.move (Operand.tmp 5), type := 3, pos := "law.go:70", after := #[{ on := 10, ground := Ground.guard }], guard := some (10, false) }) (v := .int .i64 (k : Int)) rfl (by kernel_rfl) (by kernel_rfl) (by kernel_rfl) (fun _ _ _ h => h) (Or.inl ⟨by rfl, fun wS hSw => ?_⟩) (by assumption) ?_
      · clear hHeld
        clear hSw
        go_simp
      try simp only [Act.put, List.setIfInBounds_toArray, List.set_cons_zero, List.set_cons_succ]
      refine wpAnyH_take (i := 17) (oi := { dst := some 42, op := Op.indexAddr 32 (Operand.tmp 40) (Operand.tmp 41), type := 0, pos := "law.go:70", after := #[{ on := 15, ground := Ground.data }, { on := 16, ground := Ground.data }, { on := 10, ground := Ground.guard }], guard := some (10, false) }) (v := .pointer (some ⟨g, k * 257, none⟩)) rfl (by kernel_rfl) (by kernel_rfl) (by kernel_rfl) (fun _ _ _ h => h) (Or.inl ⟨by rfl, fun wS hSw => ?_⟩) (by assumption) ?_
      · clear hHeld
        clear hSw
        go_simp
      try simp only [Act.put, List.setIfInBounds_toArray, List.set_cons_zero, List.set_cons_succ]
      refine wpAnyH_take (i := 18) (oi := { dst := some 43, op := Op.fieldAddr 79 (Operand.tmp 42) 1, type := 0, pos := "law.go:70", after := #[{ on := 17, ground := Ground.data }, { on := 10, ground := Ground.guard }], guard := some (10, false) }) (v := .pointer (some ⟨g, k * 257 + 1, none⟩)) rfl (by kernel_rfl) (by kernel_rfl) (by kernel_rfl) (fun _ _ _ h => h) (Or.inl ⟨by rfl, fun wS hSw => ?_⟩) (by assumption) ?_
      · clear hHeld
        clear hSw
        go_simp
      try simp only [Act.put, List.setIfInBounds_toArray, List.set_cons_zero, List.set_cons_succ]
      refine wpAnyH_take (i := 19) (oi := { dst := some 44, op := Op.load 24 (Operand.tmp 43), type := 24, pos := "law.go:70", after := #[{ on := 18, ground := Ground.data }, { on := 10, ground := Ground.guard }], guard := some (10, false) }) (v := .agg CX) rfl (by kernel_rfl) (by kernel_rfl) (by kernel_rfl) (fun _ _ _ h => h) (yieldsIf_load_arr Array.toArray_toList (by rfl) _ _ rfl _ _ rfl (fun _ h => h.2.2) u24 rfl iC) (by assumption) ?_
      try simp only [Act.put, List.setIfInBounds_toArray, List.set_cons_zero, List.set_cons_succ]
      refine wpAnyH_ready (rs := [13]) (by kernel_rfl) (by simp) ?_
      refine AllReadyH.cons (o := { dst := some 38, op := Op.call { callee := Callee.value (Operand.func 20), args := #[Operand.tmp 36, Operand.tmp 37], argTypes := #[50, 3] }, type := 24, pos := "law.go:70", after := #[{ on := 11, ground := Ground.data }, { on := 12, ground := Ground.data }, { on := 10, ground := Ground.chain }, { on := 10, ground := Ground.guard }], guard := some (10, false) }) rfl (fun K hK => ?_) AllReadyH.nil
      clear hHeld
      go_simp
      refine (HCl.out _ HD.out.drew.vb).mono ?_; rintro e w3 ⟨rfl, hb3⟩
      have HD3 := hid (HD.out.drew.call hb3)
      have HW3 := hid (HW.out.drew.trans (hb3.mono HW.out.drew.size))
      clear hb3
      go_wp2_with fail
      refine hK.out _ _ (HS6.out _ HD3.out) (fun hHeld => ?_)
      clear hK K
      try simp only [Act.put, List.setIfInBounds_toArray, List.set_cons_zero, List.set_cons_succ]
      refine wpAnyH_take (i := 20) (oi := { dst := some 45, op := Op.binOp BinOp.neq 24 (Operand.tmp 38) (Operand.tmp 44) 24, type := 4, pos := "law.go:70", after := #[{ on := 13, ground := Ground.data }, { on := 19, ground := Ground.data }, { on := 10, ground := Ground.guard }], guard := some (10, false) }) (v := .bool false) rfl (by kernel_rfl) (by kernel_rfl) (by kernel_rfl) (fun _ _ _ h => h) (Or.inl ⟨by rfl, fun wS hSw => ?_⟩) (by assumption) ?_
      · clear hHeld
        have hee := HEq.out
        clear hSw
        go_simp
      try simp only [Act.put, List.setIfInBounds_toArray, List.set_cons_zero, List.set_cons_succ]
      refine wpAnyH_take (i := 21) (oi := { dst := some 46, op := Op.pick (Operand.tmp 35) (Operand.const (Value.bool true)) (Operand.tmp 45), type := 4, pos := "law.go:70", after := #[{ on := 10, ground := Ground.data }, { on := 20, ground := Ground.data }], guard := none }) (v := .bool false) rfl (by kernel_rfl) (by kernel_rfl) (by kernel_rfl) (fun _ _ _ h => h) (Or.inl ⟨by rfl, fun wS hSw => ?_⟩) (by assumption) ?_
      · clear hHeld
        clear hSw
        go_simp
      try simp only [Act.put, List.setIfInBounds_toArray, List.set_cons_zero, List.set_cons_succ]
      refine wpAnyH_done (by kernel_rfl) ?_ _
      clear hHeld
      go_wp2_with fail
      go_roundw
      case rel => exact ⟨k + 1, by go_num, by omega, HD3.out, HW3.out⟩
      case measure => simp [intOf]; omega

    · obtain rfl : k = 64 := by omega
      go_wp2_with fail
      go_ret
      exact ⟨rfl, HW.out⟩

end Go.Proofs.YtbfllifgmlkndaaGreatDoor

namespace Go.Proofs.YtbfllifgmlkndaaGreatDoor
open Go.ChangeShapes Go.WideShapes Go.ChangeAt Go.RowKit
open Slot

def zeroBB : Array Value := #[.int .i64 0] ++ Array.replicate 256 (.int .u64 0) ++ #[.int .u64 0]
def zeroBBD {H : Type} : DataW H := .agg [.lit (.int .i64 0), .agg (List.replicate 256 (.lit (.int .u64 0))), .lit (.int .u64 0)]
theorem cellsBB : Tryz.prog.cellsOf 26 = 258 := by kernel_rfl
theorem cellsBOp : Tryz.prog.cellsOf 43 = 5 := by kernel_rfl
theorem cellsStr1 : Tryz.prog.cellsOf 9 = 1 := by kernel_rfl
theorem three_of {α : Type} : ∀ {l : List α}, l.length = 3 → ∃ a b c, l = [a, b, c]
  | [a, b, c], _ => ⟨a, b, c, rfl⟩
theorem five_of {α : Type} : ∀ {l : List α}, l.length = 5 → ∃ a b c d e, l = [a, b, c, d, e]
  | [a, b, c, d, e], _ => ⟨a, b, c, d, e, rfl⟩
theorem bulk_part {H : Type} {d : DataW H} : ∀ {l : List (DataW H)}, d ∈ l → Rows.uptoBulk d ≤ Rows.uptoBulkAll l
  | x :: r, h => by
    simp only [Rows.uptoBulkAll]
    cases List.mem_cons.1 h with
    | inl e => subst e; omega
    | inr e => have := bulk_part e; omega
set_option maxRecDepth 100000 in
theorem open_bb {H : Type} {enc : TypeId × Value → H} {W : World} {base : Nat} {spare : Nat → Bool} {held : Bool} {fuel : Nat} {cs : Array Value} {d : DataW H} {p : List MemPlace} (hs : cs.size = Tryz.prog.cellsOf 26) (h : DataW.trod enc Tryz.prog W base spare held fuel 26 (Value.agg cs).cells.toList = some (d, p)) :
    ∃ (self : Int) (S : Nat → Bool) (e : Nat), cs = bbCells self S e ∧ e < 18446744073709551616 := by
  rw [cellsBB] at hs
  obtain ⟨xs, n, rfl, -, hl, hlen, hf⟩ := DataW.trod_struct Tryz.underlying26 h
  obtain ⟨y0, y1, y2, rfl⟩ := three_of (show xs.length = 3 from hlen)
  have f0 : DataW.trod enc Tryz.prog W base spare held n 3 ((cs.toList.drop 0).take (Tryz.prog.cellsOf 3)) = some y0 := hf 0 _ rfl
  have f1 : DataW.trod enc Tryz.prog W base spare held n 24 ((cs.toList.drop 1).take (Tryz.prog.cellsOf 24)) = some y1 := hf 1 _ rfl
  have f2 : DataW.trod enc Tryz.prog W base spare held n 22 ((cs.toList.drop 257).take (Tryz.prog.cellsOf 22)) = some y2 := hf 2 _ rfl
  rw [cellsInt1] at f0
  rw [cellsU64] at f2
  rw [cellsBits] at f1
  obtain ⟨a0, e0, -, -⟩ := DataW.trod_int Tryz.underlying3 f0
  obtain ⟨a2, e2, -, w2⟩ := DataW.trod_int Tryz.underlying22 f2
  have b2 := bounds_u64 w2
  obtain ⟨S, hS, -, -⟩ := open_bits (cs := ((cs.toList.drop 1).take 256).toArray) (d := y1.1) (p := y1.2) (by rw [cellsBits]; simp; omega) f1
  obtain ⟨z, rfl⟩ := Int.eq_ofNat_of_zero_le b2.1
  refine ⟨a0, S, z, ?_, by omega⟩
  have hS' : (cs.toList.drop 1).take 256 = (cellsOf S).toList := by rw [← hS]
  have hz : (cellsOf S).size = 256 := cellsOf_size S
  apply Array.ext_getElem?
  intro i
  rw [← Array.getElem?_toList]
  unfold bbCells
  by_cases h0 : i = 0
  · subst h0
    rw [take_one e0, Array.getElem?_append_left (by simp; omega), Array.getElem?_append_left (by simp)]
    rfl
  · by_cases h1 : i < 257
    · obtain ⟨j, rfl⟩ : ∃ j, i = 1 + j := ⟨i - 1, by omega⟩
      have := congrArg (fun l : List Value => l[j]?) hS'
      simp only [List.getElem?_take, List.getElem?_drop] at this
      rw [if_pos (by omega)] at this
      rw [this, Array.getElem?_append_left (by simp [hz]; omega), Array.getElem?_append_right (by simp)]
      simp
    · by_cases h2 : i = 257
      · subst h2
        rw [take_one e2, Array.getElem?_append_right (by simp [hz])]
        simp [hz]
      · rw [List.getElem?_eq_none (by simp; omega), Array.getElem?_eq_none (by simp [hz]; omega)]

theorem open_bop {H : Type} {enc : TypeId × Value → H} {W : World} {base : Nat} {sp : Nat → Bool} {held : Bool} {fuel : Nat} {cs : List Value} {x : DataW H × List MemPlace} (h : DataW.trod enc Tryz.prog W base sp held fuel 43 cs = some x) :
    ∃ o : OpB, cs = (opbCells o).toList ∧ o.s.length ≤ Rows.uptoBulk x.1 := by
  obtain ⟨xs, n, rfl, rfl, hl, hlen, hf⟩ := DataW.trod_struct Tryz.underlying43 h
  rw [cellsBOp] at hl
  obtain ⟨y0, y1, y2, y3, y4, rfl⟩ := five_of (show xs.length = 5 from hlen)
  obtain ⟨c0, c1, c2, c3, c4, rfl⟩ := five_of hl
  have f0 : DataW.trod enc Tryz.prog W base sp held n 3 (([c0, c1, c2, c3, c4].drop 0).take (Tryz.prog.cellsOf 3)) = some y0 := hf 0 _ rfl
  have f1 : DataW.trod enc Tryz.prog W base sp held n 3 (([c0, c1, c2, c3, c4].drop 1).take (Tryz.prog.cellsOf 3)) = some y1 := hf 1 _ rfl
  have f2 : DataW.trod enc Tryz.prog W base sp held n 3 (([c0, c1, c2, c3, c4].drop 2).take (Tryz.prog.cellsOf 3)) = some y2 := hf 2 _ rfl
  have f3 : DataW.trod enc Tryz.prog W base sp held n 22 (([c0, c1, c2, c3, c4].drop 3).take (Tryz.prog.cellsOf 22)) = some y3 := hf 3 _ rfl
  have f4 : DataW.trod enc Tryz.prog W base sp held n 9 (([c0, c1, c2, c3, c4].drop 4).take (Tryz.prog.cellsOf 9)) = some y4 := hf 4 _ rfl
  rw [cellsInt1] at f0 f1 f2
  rw [cellsU64] at f3
  rw [cellsStr1] at f4
  obtain ⟨a0, e0, -, -⟩ := DataW.trod_int Tryz.underlying3 f0
  obtain ⟨a1, e1, -, -⟩ := DataW.trod_int Tryz.underlying3 f1
  obtain ⟨a2, e2, -, -⟩ := DataW.trod_int Tryz.underlying3 f2
  obtain ⟨a3, e3, -, w3⟩ := DataW.trod_int Tryz.underlying22 f3
  have b3 := bounds_u64 w3
  obtain ⟨s4, e4, rfl, -⟩ := DataW.trod_string Tryz.underlying9 f4
  obtain ⟨z, rfl⟩ := Int.eq_ofNat_of_zero_le b3.1
  obtain rfl : c0 = .int .i64 a0 := by simpa using e0
  obtain rfl : c1 = .int .i64 a1 := by simpa using e1
  obtain rfl : c2 = .int .i64 a2 := by simpa using e2
  obtain rfl : c3 = .int .u64 (z : Int) := by simpa using e3
  obtain rfl : c4 = .string s4 := by simpa using e4
  refine ⟨⟨a0, a1, a2, z, s4.data.toList⟩, rfl, ?_⟩
  show s4.data.toList.length ≤ _
  have hm : (DataW.lit (.string s4.data.toList) : DataW H) ∈ [y0, y1, y2, y3, (DataW.lit (.string s4.data.toList), ([] : List MemPlace))].map (·.1) := by simp
  have hb := bulk_part hm
  simp only [Rows.uptoBulk] at hb ⊢
  omega
set_option maxRecDepth 100000 in
theorem open_bops {H : Type} {enc : TypeId × Value → H} {W : World} {base : Nat} {sp : Nat → Bool} {held : Bool} {m : Nat} {a : Option Addr} {len cap : Nat} {x : DataW H × List MemPlace} (hm : DataW.trod enc Tryz.prog W base sp held m 27 [.slice a len cap] = some x) :
    ∃ l : List OpB, l.length = len ∧ OpsB W a l ∧ len ≤ 9223372036854775807 ∧ ∀ o ∈ l, o.s.length ≤ Rows.uptoBulk x.1 := by
  rcases DataW.trod_slice Tryz.underlying27 hm with ⟨e3, _⟩ | ⟨a', len', cap', elems, rest, n', hn', e3, hx, _, hlc, hcm, hel, hE, _⟩
  · obtain ⟨rfl, rfl, rfl⟩ : a = none ∧ len = 0 ∧ cap = 0 := by simpa using e3
    exact ⟨[], rfl, (fun h => absurd rfl h), by decide, fun o h => by cases h⟩
  · obtain ⟨rfl, rfl, rfl⟩ : a = some a' ∧ len = len' ∧ cap = cap' := by simpa using e3
    obtain ⟨G, hG⟩ : ∃ G : OpB → List Value, ∀ o, G o = (opbCells o).toList := ⟨fun o => (opbCells o).toList, fun _ => rfl⟩
    have each : ∀ i, i < len → ∃ o : OpB, W.cells? base (a'.add (i * 5)) 5 = some (G o) ∧ o.s.length ≤ Rows.uptoBulk x.1 := fun i hi => by
      have h1 := hE i hi
      rw [cellsBOp, List.getElem?_eq_getElem (by omega)] at h1
      obtain ⟨cs', h2, h3⟩ := Option.bind_eq_some_iff.1 h1
      obtain ⟨o, ho, hs⟩ := open_bop h3
      refine ⟨o, by rw [hG, ← ho]; exact h2, Nat.le_trans hs ?_⟩
      rw [hx]
      have hmem : elems[i].1 ∈ elems.map (·.1) := List.mem_map.2 ⟨_, List.getElem_mem (by omega), rfl⟩
      have := bulk_part hmem
      simp only [Rows.uptoBulk]
      omega
    have _inh : Inhabited OpB := ⟨⟨0, 0, 0, 0, []⟩⟩
    obtain ⟨F, hF⟩ := Go.Deep.choose_lt each
    have hL : ((List.range len).map F).length = len := by simp
    refine ⟨(List.range len).map F, hL, fun hne => ?_, Nat.le_trans hlc hcm, fun o ho => ?_⟩
    · have hpos : 0 < len := by
        rcases Nat.eq_zero_or_pos len with h | h
        · subst h; exact absurd rfl hne
        · exact h
      have hlo : ∀ o : OpB, (G o).length = 5 := fun o => by rw [hG]; rfl
      obtain ⟨blk, off, spot⟩ := a'
      have hsp : spot = none := by
        obtain ⟨_, _, h3⟩ := World.cells?_some (hF 0 hpos).1
        have h4 := h3 0 (by decide)
        rw [List.getElem?_eq_getElem (by rw [hlo]; decide)] at h4
        simpa [Addr.add] using World.cell?_spot h4
      subst hsp
      have get : ∀ i, i < len → ∀ j, j < 5 → W.cell? ⟨blk, off + i * 5 + j, none⟩ = (G (F i))[j]? := fun i hi j hj => by
        obtain ⟨_, _, h4⟩ := World.cells?_some (hF i hi).1
        have g := h4 j hj
        simp only [add_plain] at g
        exact g
      refine ⟨blk, off, rfl, ?_, fun i hi j v hv => ?_⟩
      · have h0 := get 0 hpos 0 (by decide)
        rw [List.getElem?_eq_getElem (by rw [hlo]; decide)] at h0
        exact block_lt_of_cell h0
      · have hi' : i < len := by rwa [hL] at hi
        simp only [List.getElem_map, List.getElem_range] at hv
        have hj : j < 5 := by
          have := (List.getElem?_eq_some_iff.1 hv).1
          rwa [← hG, hlo] at this
        rw [get i hi' j hj, hG]
        exact hv
    · obtain ⟨i, hi, rfl⟩ := List.mem_map.1 ho
      exact (hF i (List.mem_range.1 hi)).2

end Go.Proofs.YtbfllifgmlkndaaGreatDoor
