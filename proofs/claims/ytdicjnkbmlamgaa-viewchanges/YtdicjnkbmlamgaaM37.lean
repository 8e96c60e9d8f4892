/- LawV3. -/
import Derived.Test.YtdicjnkbmlamgaaM35
namespace Go.Proofs.Ytdicjnkbmlamgaa
open Go.RowKit Go.Shelf
open Slot

/-- stands, on its way -/
structure Sd (W : World) (rs b g cap : Nat) (v : Vw) : Prop where
  vb : VB W b v
  rv : RVb W rs v.self g cap v.cur
  nd : Nd W g v.ep v.cl
theorem Sd.call {W W' : World} {rs b g cap : Nat} {v : Vw} (h : Sd W rs b g cap v) (hb : Below W.heap.size W W') : Sd W' rs b g cap v :=
  ⟨h.vb.below hb h.vb.lt, h.rv.below hb h.rv.lt, h.nd.below hb h.nd.lt⟩
theorem Sd.drew {W : World} {rs b g cap : Nat} {v : Vw} (h : Sd W rs b g cap v) : Sd W.drew rs b g cap v := ⟨h.vb.turn rfl, h.rv, h.nd.turn rfl⟩
theorem sd_new {w : World} {b g cap : Nat} {v : Vw} (hV : VB w b v) (hN : Nd w g v.ep v.cl) : Sd (w.alloc (.cells (rvc v.self g cap v.cur) 31)) w.heap.size b g cap v :=
  ⟨hV.below (below_alloc w _) hV.lt, heap_alloc_new w _, hN.below (below_alloc w _) hN.lt⟩
/-- what region 1 reads -/
def S1 (rs me g cap cu : Nat) (RC : Array Value) (W : World) : Prop := (W.cell? ⟨rs, 0, none⟩ = some (.int .i64 (me : Int)) ∧ W.cell? ⟨rs, 1, none⟩ = some (.slice (some ⟨g, 0, none⟩) 64 cap) ∧ W.cell? ⟨rs, 2, none⟩ = some (.int .u64 (cu : Int))) ∧ W.rangeAt rs 0 RC.toList
theorem Sd.s1 {W : World} {rs b g cap me cu : Nat} {v : Vw} {RC : Array Value} (h : Sd W rs b g cap v) (hm : v.self = me) (hc : v.cur = cu) (hR : rvc me g cap cu = RC) : S1 rs me g cap cu RC W := by
  subst hm hc hR
  refine ⟨rv_cells h.rv, fun j v hv => ?_⟩
  rw [Nat.zero_add, cell_of_row _ _ _ _ _ _ h.rv]
  rwa [Array.getElem?_toList] at hv
/-- what region 6 reads -/
def S6 (rs g cap k x : Nat) (CX : Array Value) (W : World) : Prop := W.cell? ⟨rs, 1, none⟩ = some (.slice (some ⟨g, 0, none⟩) 64 cap) ∧ W.cell? ⟨g, k * 257, none⟩ = some (.int .u64 (x : Int)) ∧ W.rangeAt g (k * 257 + 1) CX.toList
theorem Sd.s6 {W : World} {rs b g cap k x : Nat} {v : Vw} {CX : Array Value} (h : Sd W rs b g cap v) (hk : k < 64) (hx : v.ep k = x) (hC : cellsOf (v.cl k) = CX) : S6 rs g cap k x CX W := by
  subst hx hC
  exact ⟨(rv_cells h.rv).2.1, h.nd.ep hk, h.nd.cl_range hk⟩
set_option maxHeartbeats 4000000 in
set_option maxRecDepth 100000 in
theorem stands_any (b g cap : Nat) (v : Vw) (w : World) (hV : VB w b v) (hN : Nd w g v.ep v.cl) (hs : v.self < 64) : Calls Try.prog 11 #[.pointer (some ⟨b, 0, none⟩), .agg (rvc v.self g cap v.cur)] w fun e w' => e = .returned (.bool true) ∧ Below w.heap.size w w' := by
  have HD0 := hid (sd_new (cap := cap) hV hN)
  have HW0 := hid (below_alloc w (.cells (rvc v.self g cap v.cur) 31))
  have HSf := hid (fun W h => self_any b v W h)
  have HCu := hid (fun W h => current_any b v W h)
  have HTl := hid (fun W h => tell_any b 1 v W h hs)
  have HRt := hid (fun W h => rtell_any v.self g cap v.cur 1 v.ep v.cl W hs h)
  have HEq := hid (fun w => eq_packet (tellV v 1) (tellV v 1) w)
  rw [(sameP_iff _ _).2 (Like.refl _)] at HEq
  have HRt2 : Hid (∀ W, Nd W g v.ep v.cl → Calls Try.prog 29 #[.agg (rvc v.self g cap v.cur), .int .i64 1] W fun e w' => e = .returned (.agg (pkCells (tellV v 1))) ∧ Below W.heap.size W w') := HRt
  obtain ⟨PC, hPC⟩ : ∃ C, pkCells (tellV v 1) = C := ⟨_, rfl⟩
  rw [hPC] at HTl HRt2 HEq
  obtain ⟨me, hme⟩ : ∃ m, v.self = m := ⟨_, rfl⟩
  obtain ⟨cu, hcu⟩ : ∃ m, v.cur = m := ⟨_, rfl⟩
  rw [hme] at HSf
  rw [hcu] at HCu
  obtain ⟨RC, hRC⟩ : ∃ C, rvc v.self g cap v.cur = C := ⟨_, rfl⟩
  have hRC2 := hRC
  rw [hme, hcu] at hRC2
  have HS1 := hid (fun W (h : Sd W w.heap.size b g cap v) => h.s1 hme hcu hRC2)
  have iRl : (Try.prog.info? 31).map (·.size) = some RC.toList.length := by rw [← hRC]; exact infoRV rfl
  rw [hRC] at HD0 HW0 HRt2 ⊢
  have HEm : Hid (∀ W, VB W b v → Calls Try.prog 18 #[.pointer (some ⟨b, 0, none⟩), .int .i64 (-1)] W fun e w' => e = .returned (.int .u64 0) ∧ w' = W) := fun W h => epoch_any b v (-1) W h
  have HOm : Hid (∀ W, VB W b v → Calls Try.prog 12 #[.pointer (some ⟨b, 0, none⟩), .int .i64 (-1)] W fun e w' => e = .returned (.int .i64 (-1)) ∧ w' = W) := fun W h => by
    have := owner_any b v (-1) W h
    rwa [ownI_out v (show slotB (-1) = false from rfl)] at this
  have HOs : Hid (∀ W, VB W b v → Calls Try.prog 12 #[.pointer (some ⟨b, 0, none⟩), .int .i64 16384] W fun e w' => e = .returned (.int .i64 (-1)) ∧ w' = W) := fun W h => by
    have := owner_any b v 16384 W h
    rwa [ownI_out v (show slotB 16384 = false from rfl)] at this
  clear hV hN hs hPC hRC hRC2 hme hcu HRt
  go_enter Try.func11, Try.ntmps11
  go_upto_region 1 with fail
  generalize hw1 : w.alloc (.cells RC 31) = w1 at *
  generalize hrs : w.heap.size = rs at HD0 HS1 ⊢
  have HRs := hid hrs
  clear hw1 hrs

  go_cut [24] (fun c wx => c = .bool false ∧ Hid (Sd wx rs b g cap v) ∧ Hid (Below w.heap.size w wx))
  case first =>
    have u31 := Try.underlying31
    refine wp_region_held_drew (S := S1 rs me g cap cu RC) (by kernel_rfl) (HS1.out _ HD0.out.drew) (fun hHeld => ?_)

    refine wpAnyH_take (i := 0) (oi := { dst := some 6, op := Op.move (Operand.tmp 0), type := 28, pos := "law.go:51", after := #[], guard := none }) (v := .pointer (some ⟨b, 0, none⟩)) rfl (by kernel_rfl) (by kernel_rfl) (by kernel_rfl) (fun _ _ _ h => h) (Or.inl ⟨by rfl, fun wS hSw => ?_⟩) (by assumption) ?_
    · clear hHeld
      clear hSw
      go_simp
    try simp only [Act.put, List.setIfInBounds_toArray, List.set_cons_zero, List.set_cons_succ]
    refine wpAnyH_take (i := 2) (oi := { dst := some 8, op := Op.fieldAddr 31 (Operand.tmp 3) 0, type := 0, pos := "law.go:51", after := #[], guard := none }) (v := .pointer (some ⟨rs, 0, none⟩)) rfl (by kernel_rfl) (by kernel_rfl) (by kernel_rfl) (fun _ _ _ h => h) (Or.inl ⟨by rfl, fun wS hSw => ?_⟩) (by assumption) ?_
    · clear hHeld
      clear hSw
      go_simp
    try simp only [Act.put, List.setIfInBounds_toArray, List.set_cons_zero, List.set_cons_succ]
    refine wpAnyH_take (i := 3) (oi := { dst := some 9, op := Op.load 3 (Operand.tmp 8), type := 3, pos := "law.go:51", after := #[{ on := 2, ground := Ground.data }], guard := none }) (v := .int .i64 (me : Int)) rfl (by kernel_rfl) (by kernel_rfl) (by kernel_rfl) (fun _ _ _ h => h) (Or.inl ⟨by rfl, fun wS hSw => ?_⟩) (by assumption) ?_
    · clear hHeld
      obtain ⟨⟨s0, s1, s2⟩, s3⟩ := hSw
      go_simp
    try simp only [Act.put, List.setIfInBounds_toArray, List.set_cons_zero, List.set_cons_succ]
    refine wpAnyH_ready (rs := [1]) (by kernel_rfl) (by simp) ?_
    refine AllReadyH.cons (o := { dst := some 7, op := Op.call { callee := Callee.value (Operand.func 26), args := #[Operand.tmp 6], argTypes := #[28] }, type := 3, pos := "law.go:51", after := #[{ on := 0, ground := Ground.data }], guard := none }) rfl (fun K hK => ?_) AllReadyH.nil
    clear hHeld
    go_simp
    refine (HSf.out _ HD0.out.drew.vb).mono ?_; rintro e w2 ⟨rfl, rfl⟩
    go_wp2_with fail
    refine hK.out _ _ (HS1.out _ HD0.out.drew) (fun hHeld => ?_)
    clear hK K
    try simp only [Act.put, List.setIfInBounds_toArray, List.set_cons_zero, List.set_cons_succ]
    refine wpAnyH_take (i := 4) (oi := { dst := some 10, op := Op.binOp BinOp.neq 3 (Operand.tmp 7) (Operand.tmp 9) 3, type := 4, pos := "law.go:51", after := #[{ on := 1, ground := Ground.data }, { on := 3, ground := Ground.data }], guard := none }) (v := .bool false) rfl (by kernel_rfl) (by kernel_rfl) (by kernel_rfl) (fun _ _ _ h => h) (Or.inl ⟨by rfl, fun wS hSw => ?_⟩) (by assumption) ?_
    · clear hHeld
      clear hSw
      go_simp
    try simp only [Act.put, List.setIfInBounds_toArray, List.set_cons_zero, List.set_cons_succ]
    refine wpAnyH_take (i := 5) (oi := { dst := some 11, op := Op.move (Operand.tmp 10), type := 4, pos := "law.go:51", after := #[{ on := 4, ground := Ground.data }, { on := 1, ground := Ground.chain }], guard := none }) (v := .bool false) rfl (by kernel_rfl) (by kernel_rfl) (by kernel_rfl) (fun _ _ _ h => h) (Or.inl ⟨by rfl, fun wS hSw => ?_⟩) (by assumption) ?_
    · clear hHeld
      clear hSw
      go_simp
    try simp only [Act.put, List.setIfInBounds_toArray, List.set_cons_zero, List.set_cons_succ]
    refine wpAnyH_take (i := 6) (oi := { dst := some 12, op := Op.move (Operand.tmp 0), type := 28, pos := "law.go:51", after := #[{ on := 5, ground := Ground.guard }], guard := some (5, false) }) (v := .pointer (some ⟨b, 0, none⟩)) rfl (by kernel_rfl) (by kernel_rfl) (by kernel_rfl) (fun _ _ _ h => h) (Or.inl ⟨by rfl, fun wS hSw => ?_⟩) (by assumption) ?_
    · clear hHeld
      clear hSw
      go_simp
    try simp only [Act.put, List.setIfInBounds_toArray, List.set_cons_zero, List.set_cons_succ]
    refine wpAnyH_take (i := 8) (oi := { dst := some 14, op := Op.fieldAddr 31 (Operand.tmp 3) 2, type := 0, pos := "law.go:51", after := #[{ on := 5, ground := Ground.guard }], guard := some (5, false) }) (v := .pointer (some ⟨rs, 2, none⟩)) rfl (by kernel_rfl) (by kernel_rfl) (by kernel_rfl) (fun _ _ _ h => h) (Or.inl ⟨by rfl, fun wS hSw => ?_⟩) (by assumption) ?_
    · clear hHeld
      clear hSw
      go_simp
    try simp only [Act.put, List.setIfInBounds_toArray, List.set_cons_zero, List.set_cons_succ]
    refine wpAnyH_take (i := 9) (oi := { dst := some 15, op := Op.load 22 (Operand.tmp 14), type := 22, pos := "law.go:51", after := #[{ on := 8, ground := Ground.data }, { on := 5, ground := Ground.guard }], guard := some (5, false) }) (v := .int .u64 (cu : Int)) rfl (by kernel_rfl) (by kernel_rfl) (by kernel_rfl) (fun _ _ _ h => h) (Or.inl ⟨by rfl, fun wS hSw => ?_⟩) (by assumption) ?_
    · clear hHeld
      obtain ⟨⟨s0, s1, s2⟩, s3⟩ := hSw
      go_simp
    try simp only [Act.put, List.setIfInBounds_toArray, List.set_cons_zero, List.set_cons_succ]
    refine wpAnyH_ready (rs := [7]) (by kernel_rfl) (by simp) ?_
    refine AllReadyH.cons (o := { dst := some 13, op := Op.call { callee := Callee.value (Operand.func 17), args := #[Operand.tmp 12], argTypes := #[28] }, type := 22, pos := "law.go:51", after := #[{ on := 6, ground := Ground.data }, { on := 5, ground := Ground.chain }, { on := 5, ground := Ground.guard }], guard := some (5, false) }) rfl (fun K hK => ?_) AllReadyH.nil
    clear hHeld
    go_simp
    refine (HCu.out _ HD0.out.drew.vb).mono ?_; rintro e w2 ⟨rfl, rfl⟩
    go_wp2_with fail
    refine hK.out _ _ (HS1.out _ HD0.out.drew) (fun hHeld => ?_)
    clear hK K
    try simp only [Act.put, List.setIfInBounds_toArray, List.set_cons_zero, List.set_cons_succ]
    refine wpAnyH_take (i := 10) (oi := { dst := some 16, op := Op.binOp BinOp.neq 22 (Operand.tmp 13) (Operand.tmp 15) 22, type := 4, pos := "law.go:51", after := #[{ on := 7, ground := Ground.data }, { on := 9, ground := Ground.data }, { on := 5, ground := Ground.guard }], guard := some (5, false) }) (v := .bool false) rfl (by kernel_rfl) (by kernel_rfl) (by kernel_rfl) (fun _ _ _ h => h) (Or.inl ⟨by rfl, fun wS hSw => ?_⟩) (by assumption) ?_
    · clear hHeld
      clear hSw
      go_simp
    try simp only [Act.put, List.setIfInBounds_toArray, List.set_cons_zero, List.set_cons_succ]
    refine wpAnyH_take (i := 11) (oi := { dst := some 17, op := Op.pick (Operand.tmp 11) (Operand.const (Value.bool true)) (Operand.tmp 16), type := 4, pos := "law.go:51", after := #[{ on := 5, ground := Ground.data }, { on := 10, ground := Ground.data }], guard := none }) (v := .bool false) rfl (by kernel_rfl) (by kernel_rfl) (by kernel_rfl) (fun _ _ _ h => h) (Or.inl ⟨by rfl, fun wS hSw => ?_⟩) (by assumption) ?_
    · clear hHeld
      clear hSw
      go_simp
    try simp only [Act.put, List.setIfInBounds_toArray, List.set_cons_zero, List.set_cons_succ]
    refine wpAnyH_take (i := 12) (oi := { dst := some 18, op := Op.move (Operand.tmp 17), type := 4, pos := "law.go:51", after := #[{ on := 11, ground := Ground.data }, { on := 7, ground := Ground.chain }], guard := none }) (v := .bool false) rfl (by kernel_rfl) (by kernel_rfl) (by kernel_rfl) (fun _ _ _ h => h) (Or.inl ⟨by rfl, fun wS hSw => ?_⟩) (by assumption) ?_
    · clear hHeld
      clear hSw
      go_simp
    try simp only [Act.put, List.setIfInBounds_toArray, List.set_cons_zero, List.set_cons_succ]
    refine wpAnyH_take (i := 13) (oi := { dst := some 19, op := Op.move (Operand.tmp 0), type := 28, pos := "law.go:51", after := #[{ on := 12, ground := Ground.guard }], guard := some (12, false) }) (v := .pointer (some ⟨b, 0, none⟩)) rfl (by kernel_rfl) (by kernel_rfl) (by kernel_rfl) (fun _ _ _ h => h) (Or.inl ⟨by rfl, fun wS hSw => ?_⟩) (by assumption) ?_
    · clear hHeld
      clear hSw
      go_simp
    try simp only [Act.put, List.setIfInBounds_toArray, List.set_cons_zero, List.set_cons_succ]
    refine wpAnyH_take (i := 15) (oi := { dst := some 21, op := Op.load 31 (Operand.tmp 3), type := 31, pos := "law.go:51", after := #[{ on := 12, ground := Ground.guard }], guard := some (12, false) }) (v := .agg RC) rfl (by kernel_rfl) (by kernel_rfl) (by kernel_rfl) (fun _ _ _ h => h) (yieldsIf_load_arr Array.toArray_toList (by rfl) _ _ rfl _ _ rfl (fun _ h => h.2) u31 rfl iRl) (by assumption) ?_
    try simp only [Act.put, List.setIfInBounds_toArray, List.set_cons_zero, List.set_cons_succ]
    refine wpAnyH_ready (rs := [14]) (by kernel_rfl) (by simp) ?_
    refine AllReadyH.cons (o := { dst := some 20, op := Op.call { callee := Callee.value (Operand.func 28), args := #[Operand.tmp 19, Operand.const (Value.int IntKind.i64 1)], argTypes := #[28, 3] }, type := 44, pos := "law.go:51", after := #[{ on := 13, ground := Ground.data }, { on := 12, ground := Ground.chain }, { on := 12, ground := Ground.guard }], guard := some (12, false) }) rfl (fun K hK => ?_) AllReadyH.nil
    clear hHeld
    go_simp
    refine (HTl.out _ HD0.out.drew.vb).mono ?_; rintro e w3 ⟨rfl, hb3⟩
    have HD3 := hid (HD0.out.drew.call hb3)
    have HW3 := hid (HW0.out.drew.trans (hb3.mono HW0.out.drew.size))
    clear hb3
    go_wp2_with fail
    refine hK.out _ _ (HS1.out _ HD3.out) (fun hHeld => ?_)
    clear hK K
    try simp only [Act.put, List.setIfInBounds_toArray, List.set_cons_zero, List.set_cons_succ]
    refine wpAnyH_ready (rs := [16]) (by kernel_rfl) (by simp) ?_
    refine AllReadyH.cons (o := { dst := some 22, op := Op.call { callee := Callee.value (Operand.func 29), args := #[Operand.tmp 21, Operand.const (Value.int IntKind.i64 1)], argTypes := #[31, 3] }, type := 44, pos := "law.go:51", after := #[{ on := 15, ground := Ground.data }, { on := 14, ground := Ground.chain }, { on := 12, ground := Ground.guard }], guard := some (12, false) }) rfl (fun K hK => ?_) AllReadyH.nil
    clear hHeld
    go_simp
    refine (HRt2.out _ HD3.out.nd).mono ?_; rintro e w4 ⟨rfl, hb4⟩
    have HD4 := hid (HD3.out.call hb4)
    have HW4 := hid (HW3.out.trans (hb4.mono HW3.out.size))
    clear hb4
    go_wp2_with fail
    refine hK.out _ _ (HS1.out _ HD4.out) (fun hHeld => ?_)
    clear hK K
    try simp only [Act.put, List.setIfInBounds_toArray, List.set_cons_zero, List.set_cons_succ]
    refine wpAnyH_take (i := 17) (oi := { dst := some 23, op := Op.binOp BinOp.neq 44 (Operand.tmp 20) (Operand.tmp 22) 44, type := 4, pos := "law.go:51", after := #[{ on := 14, ground := Ground.data }, { on := 16, ground := Ground.data }, { on := 12, ground := Ground.guard }], guard := some (12, false) }) (v := .bool false) rfl (by kernel_rfl) (by kernel_rfl) (by kernel_rfl) (fun _ _ _ h => h) (Or.inl ⟨by rfl, fun wS hSw => ?_⟩) (by assumption) ?_
    · clear hHeld
      have hee := HEq.out
      clear hSw
      go_simp
    try simp only [Act.put, List.setIfInBounds_toArray, List.set_cons_zero, List.set_cons_succ]
    refine wpAnyH_take (i := 18) (oi := { dst := some 24, op := Op.pick (Operand.tmp 18) (Operand.const (Value.bool true)) (Operand.tmp 23), type := 4, pos := "law.go:51", after := #[{ on := 12, ground := Ground.data }, { on := 17, ground := Ground.data }], guard := none }) (v := .bool false) rfl (by kernel_rfl) (by kernel_rfl) (by kernel_rfl) (fun _ _ _ h => h) (Or.inl ⟨by rfl, fun wS hSw => ?_⟩) (by assumption) ?_
    · clear hHeld
      clear hSw
      go_simp
    try simp only [Act.put, List.setIfInBounds_toArray, List.set_cons_zero, List.set_cons_succ]
    refine wpAnyH_done (by kernel_rfl) ?_ _
    clear hHeld
    go_wp2_with fail
    go_meet
    exact ⟨rfl, HD4.out, HW4.out⟩

  case rest =>
  obtain ⟨rfl, HD1, HW1⟩ := hcut
  clear HD0 HW0 HTl HRt2 HEq HSf HCu HS1 iRl
  generalize wc = w5 at *
  go_wp2_with fail
  go_loopw [25] (fun c wr => ∃ k : Nat, c = .int .i64 (k : Int) ∧ k ≤ 64 ∧ Hid (Sd wr rs b g cap v) ∧ Hid (Below w.heap.size w wr)) (fun i _ => 64 - (intOf i).toNat)
  case atStart => exact ⟨0, rfl, Nat.zero_le _, HD1.out, HW1.out⟩
  case round =>
    clear HD1 HW1
    obtain ⟨k, rfl, hk, HD, HW⟩ := hrel
    by_cases hlt : k < 64
    · have hkz : (k : Int) < 64 := by omega
      have HEp : Hid (∀ W, VB W b v → Calls Try.prog 18 #[.pointer (some ⟨b, 0, none⟩), .int .i64 (k : Int)] W fun e w' => e = .returned (.int .u64 (v.ep k : Int)) ∧ w' = W) := fun W h => by
        have := epoch_any b v (k : Int) W h
        rwa [epI_in v hlt] at this
      have HCl : Hid (∀ W, VB W b v → Calls Try.prog 30 #[.pointer (some ⟨b, 0, none⟩), .int .i64 (k : Int)] W fun e w' => e = .returned (.agg (cellsOf (v.cl k))) ∧ Below W.heap.size W w') := fun W h => by
        have := claims_any b v (k : Int) W h
        rwa [clsI_in v hlt] at this
      have HEq := hid (fun w => eq_bits (v.cl k) (v.cl k) w)
      rw [(sameB_iff _ _).2 (fun _ _ => rfl)] at HEq
      have iC := infoBl (S := v.cl k)
      obtain ⟨x, hx⟩ : ∃ x, v.ep k = x := ⟨_, rfl⟩
      obtain ⟨CX, hCX⟩ : ∃ x, cellsOf (v.cl k) = x := ⟨_, rfl⟩
      have HS6 := hid (fun W (h : Sd W rs b g cap v) => h.s6 hlt hx hCX)
      rw [hx] at HEp
      rw [hCX] at HCl HEq iC
      clear hx hCX
      go_upto_region 6 with fail
      have u24 := Try.underlying24
      refine wp_region_held_drew (S := S6 rs g cap k x CX) (by kernel_rfl) (HS6.out _ HD.out.drew) (fun hHeld => ?_)

      refine wpAnyH_take (i := 0) (oi := { dst := some 28, op := Op.move (Operand.tmp 0), type := 28, pos := "law.go:55", after := #[], guard := none }) (v := .pointer (some ⟨b, 0, none⟩)) rfl (by kernel_rfl) (by kernel_rfl) (by kernel_rfl) (fun _ _ _ h => h) (Or.inl ⟨by rfl, fun wS hSw => ?_⟩) (by assumption) ?_
      · clear hHeld
        clear hSw
        go_simp
      try simp only [Act.put, List.setIfInBounds_toArray, List.set_cons_zero, List.set_cons_succ]
      refine wpAnyH_take (i := 1) (oi := { dst := some 29, op := Op.move (Operand.tmp 5), type := 3, pos := "law.go:55", after := #[], guard := none }) (v := .int .i64 (k : Int)) rfl (by kernel_rfl) (by kernel_rfl) (by kernel_rfl) (fun _ _ _ h => h) (Or.inl ⟨by rfl, fun wS hSw => ?_⟩) (by assumption) ?_
      · clear hHeld
        clear hSw
        go_simp
      try simp only [Act.put, List.setIfInBounds_toArray, List.set_cons_zero, List.set_cons_succ]
      refine wpAnyH_take (i := 3) (oi := { dst := some 31, op := Op.fieldAddr 31 (Operand.tmp 3) 1, type := 0, pos := "law.go:55", after := #[], guard := none }) (v := .pointer (some ⟨rs, 1, none⟩)) rfl (by kernel_rfl) (by kernel_rfl) (by kernel_rfl) (fun _ _ _ h => h) (Or.inl ⟨by rfl, fun wS hSw => ?_⟩) (by assumption) ?_
      · clear hHeld
        clear hSw
        go_simp
      try simp only [Act.put, List.setIfInBounds_toArray, List.set_cons_zero, List.set_cons_succ]
      refine wpAnyH_take (i := 4) (oi := { dst := some 32, op := Op.load 29 (Operand.tmp 31), type := 29, pos := "law.go:55", after := #[{ on := 3, ground := Ground.data }], guard := none }) (v := .slice (some ⟨g, 0, none⟩) 64 cap) rfl (by kernel_rfl) (by kernel_rfl) (by kernel_rfl) (fun _ _ _ h => h) (Or.inl ⟨by rfl, fun wS hSw => ?_⟩) (by assumption) ?_
      · clear hHeld
        obtain ⟨s0, s1, s2⟩ := hSw
        go_simp
      try simp only [Act.put, List.setIfInBounds_toArray, List.set_cons_zero, List.set_cons_succ]
      refine wpAnyH_take (i := 5) (oi := { dst := some 33, op := Op.move (Operand.tmp 5), type := 3, pos := "law.go:55", after := #[], guard := none }) (v := .int .i64 (k : Int)) rfl (by kernel_rfl) (by kernel_rfl) (by kernel_rfl) (fun _ _ _ h => h) (Or.inl ⟨by rfl, fun wS hSw => ?_⟩) (by assumption) ?_
      · clear hHeld
        clear hSw
        go_simp
      try simp only [Act.put, List.setIfInBounds_toArray, List.set_cons_zero, List.set_cons_succ]
      refine wpAnyH_take (i := 6) (oi := { dst := some 34, op := Op.indexAddr 29 (Operand.tmp 32) (Operand.tmp 33), type := 0, pos := "law.go:55", after := #[{ on := 4, ground := Ground.data }, { on := 5, ground := Ground.data }], guard := none }) (v := .pointer (some ⟨g, k * 257, none⟩)) rfl (by kernel_rfl) (by kernel_rfl) (by kernel_rfl) (fun _ _ _ h => h) (Or.inl ⟨by rfl, fun wS hSw => ?_⟩) (by assumption) ?_
      · clear hHeld
        clear hSw
        go_simp
      try simp only [Act.put, List.setIfInBounds_toArray, List.set_cons_zero, List.set_cons_succ]
      refine wpAnyH_take (i := 7) (oi := { dst := some 35, op := Op.fieldAddr 58 (Operand.tmp 34) 0, type := 0, pos := "law.go:55", after := #[{ on := 6, ground := Ground.data }], guard := none }) (v := .pointer (some ⟨g, k * 257, none⟩)) rfl (by kernel_rfl) (by kernel_rfl) (by kernel_rfl) (fun _ _ _ h => h) (Or.inl ⟨by rfl, fun wS hSw => ?_⟩) (by assumption) ?_
      · clear hHeld
        clear hSw
        go_simp
      try simp only [Act.put, List.setIfInBounds_toArray, List.set_cons_zero, List.set_cons_succ]
      refine wpAnyH_take (i := 8) (oi := { dst := some 36, op := Op.load 22 (Operand.tmp 35), type := 22, pos := "law.go:55", after := #[{ on := 7, ground := Ground.data }], guard := none }) (v := .int .u64 (x : Int)) rfl (by kernel_rfl) (by kernel_rfl) (by kernel_rfl) (fun _ _ _ h => h) (Or.inl ⟨by rfl, fun wS hSw => ?_⟩) (by assumption) ?_
      · clear hHeld
        obtain ⟨s0, s1, s2⟩ := hSw
        go_simp
      try simp only [Act.put, List.setIfInBounds_toArray, List.set_cons_zero, List.set_cons_succ]
      refine wpAnyH_ready (rs := [2]) (by kernel_rfl) (by simp) ?_
      refine AllReadyH.cons (o := { dst := some 30, op := Op.call { callee := Callee.value (Operand.func 18), args := #[Operand.tmp 28, Operand.tmp 29], argTypes := #[28, 3] }, type := 22, pos := "law.go:55", after := #[{ on := 0, ground := Ground.data }, { on := 1, ground := Ground.data }], guard := none }) rfl (fun K hK => ?_) AllReadyH.nil
      clear hHeld
      go_simp
      refine (HEp.out _ HD.out.drew.vb).mono ?_; rintro e w2 ⟨rfl, rfl⟩
      go_wp2_with fail
      refine hK.out _ _ (HS6.out _ HD.out.drew) (fun hHeld => ?_)
      clear hK K
      try simp only [Act.put, List.setIfInBounds_toArray, List.set_cons_zero, List.set_cons_succ]
      refine wpAnyH_take (i := 9) (oi := { dst := some 37, op := Op.binOp BinOp.neq 22 (Operand.tmp 30) (Operand.tmp 36) 22, type := 4, pos := "law.go:55", after := #[{ on := 2, ground := Ground.data }, { on := 8, ground := Ground.data }], guard := none }) (v := .bool false) rfl (by kernel_rfl) (by kernel_rfl) (by kernel_rfl) (fun _ _ _ h => h) (Or.inl ⟨by rfl, fun wS hSw => ?_⟩) (by assumption) ?_
      · clear hHeld
        clear hSw
        go_simp
      try simp only [Act.put, List.setIfInBounds_toArray, List.set_cons_zero, List.set_cons_succ]
      refine wpAnyH_take (i := 10) (oi := { dst := some 38, op := Op.move (Operand.tmp 37), type := 4, pos := "law.go:55", after := #[{ on := 9, ground := Ground.data }, { on := 2, ground := Ground.chain }], guard := none }) (v := .bool false) rfl (by kernel_rfl) (by kernel_rfl) (by kernel_rfl) (fun _ _ _ h => h) (Or.inl ⟨by rfl, fun wS hSw => ?_⟩) (by assumption) ?_
      · clear hHeld
        clear hSw
        go_simp
      try simp only [Act.put, List.setIfInBounds_toArray, List.set_cons_zero, List.set_cons_succ]
      refine wpAnyH_take (i := 11) (oi := { dst := some 39, op := Op.move (Operand.tmp 0), type := 28, pos := "law.go:55", after := #[{ on := 10, ground := Ground.guard }], guard := some (10, false) }) (v := .pointer (some ⟨b, 0, none⟩)) rfl (by kernel_rfl) (by kernel_rfl) (by kernel_rfl) (fun _ _ _ h => h) (Or.inl ⟨by rfl, fun wS hSw => ?_⟩) (by assumption) ?_
      · clear hHeld
        clear hSw
        go_simp
      try simp only [Act.put, List.setIfInBounds_toArray, List.set_cons_zero, List.set_cons_succ]
      refine wpAnyH_take (i := 12) (oi := { dst := some 40, op := Op.move (Operand.tmp 5), type := 3, pos := "law.go:55", after := #[{ on := 10, ground := Ground.guard }], guard := some (10, false) }) (v := .int .i64 (k : Int)) rfl (by kernel_rfl) (by kernel_rfl) (by kernel_rfl) (fun _ _ _ h => h) (Or.inl ⟨by rfl, fun wS hSw => ?_⟩) (by assumption) ?_
      · clear hHeld
        clear hSw
        go_simp
      try simp only [Act.put, List.setIfInBounds_toArray, List.set_cons_zero, List.set_cons_succ]
      refine wpAnyH_take (i := 14) (oi := { dst := some 42, op := Op.fieldAddr 31 (Operand.tmp 3) 1, type := 0, pos := "law.go:55", after := #[{ on := 10, ground := Ground.guard }], guard := some (10, false) }) (v := .pointer (some ⟨rs, 1, none⟩)) rfl (by kernel_rfl) (by kernel_rfl) (by kernel_rfl) (fun _ _ _ h => h) (Or.inl ⟨by rfl, fun wS hSw => ?_⟩) (by assumption) ?_
      · clear hHeld
        clear hSw
        go_simp
      try simp only [Act.put, List.setIfInBounds_toArray, List.set_cons_zero, List.set_cons_succ]
      refine wpAnyH_take (i := 15) (oi := { dst := some 43, op := Op.load 29 (Operand.tmp 42), type := 29, pos := "law.go:55", after := #[{ on := 14, ground := Ground.data }, { on := 10, ground := Ground.guard }], guard := some (10, false) }) (v := .slice (some ⟨g, 0, none⟩) 64 cap) rfl (by kernel_rfl) (by kernel_rfl) (by kernel_rfl) (fun _ _ _ h => h) (Or.inl ⟨by rfl, fun wS hSw => ?_⟩) (by assumption) ?_
      · clear hHeld
        obtain ⟨s0, s1, s2⟩ := hSw
        go_simp
      try simp only [Act.put, List.setIfInBounds_toArray, List.set_cons_zero, List.set_cons_succ]
      refine wpAnyH_take (i := 16) (oi := { dst := some 44, op := Op.move (Operand.tmp 5), type := 3, pos := "law.go:55", after := #[{ on := 10, ground := Ground.guard }], guard := some (10, false) }) (v := .int .i64 (k : Int)) rfl (by kernel_rfl) (by kernel_rfl) (by kernel_rfl) (fun _ _ _ h => h) (Or.inl ⟨by rfl, fun wS hSw => ?_⟩) (by assumption) ?_
      · clear hHeld
        clear hSw
        go_simp
      try simp only [Act.put, List.setIfInBounds_toArray, List.set_cons_zero, List.set_cons_succ]
      refine wpAnyH_take (i := 17) (oi := { dst := some 45, op := Op.indexAddr 29 (Operand.tmp 43) (Operand.tmp 44), type := 0, pos := "law.go:55", after := #[{ on := 15, ground := Ground.data }, { on := 16, ground := Ground.data }, { on := 10, ground := Ground.guard }], guard := some (10, false) }) (v := .pointer (some ⟨g, k * 257, none⟩)) rfl (by kernel_rfl) (by kernel_rfl) (by kernel_rfl) (fun _ _ _ h => h) (Or.inl ⟨by rfl, fun wS hSw => ?_⟩) (by assumption) ?_
      · clear hHeld
        clear hSw
        go_simp
      try simp only [Act.put, List.setIfInBounds_toArray, List.set_cons_zero, List.set_cons_succ]
      refine wpAnyH_take (i := 18) (oi := { dst := some 46, op := Op.fieldAddr 58 (Operand.tmp 45) 1, type := 0, pos := "law.go:55", after := #[{ on := 17, ground := Ground.data }, { on := 10, ground := Ground.guard }], guard := some (10, false) }) (v := .pointer (some ⟨g, k * 257 + 1, none⟩)) rfl (by kernel_rfl) (by kernel_rfl) (by kernel_rfl) (fun _ _ _ h => h) (Or.inl ⟨by rfl, fun wS hSw => ?_⟩) (by assumption) ?_
      · clear hHeld
        clear hSw
        go_simp
      try simp only [Act.put, List.setIfInBounds_toArray, List.set_cons_zero, List.set_cons_succ]
      refine wpAnyH_take (i := 19) (oi := { dst := some 47, op := Op.load 24 (Operand.tmp 46), type := 24, pos := "law.go:55", after := #[{ on := 18, ground := Ground.data }, { on := 10, ground := Ground.guard }], guard := some (10, false) }) (v := .agg CX) rfl (by kernel_rfl) (by kernel_rfl) (by kernel_rfl) (fun _ _ _ h => h) (yieldsIf_load_arr Array.toArray_toList (by rfl) _ _ rfl _ _ rfl (fun _ h => h.2.2) u24 rfl iC) (by assumption) ?_
      try simp only [Act.put, List.setIfInBounds_toArray, List.set_cons_zero, List.set_cons_succ]
      refine wpAnyH_ready (rs := [13]) (by kernel_rfl) (by simp) ?_
      refine AllReadyH.cons (o := { dst := some 41, op := Op.call { callee := Callee.value (Operand.func 30), args := #[Operand.tmp 39, Operand.tmp 40], argTypes := #[28, 3] }, type := 24, pos := "law.go:55", after := #[{ on := 11, ground := Ground.data }, { on := 12, ground := Ground.data }, { on := 10, ground := Ground.chain }, { on := 10, ground := Ground.guard }], guard := some (10, false) }) rfl (fun K hK => ?_) AllReadyH.nil
      clear hHeld
      go_simp
      refine (HCl.out _ HD.out.drew.vb).mono ?_; rintro e w3 ⟨rfl, hb3⟩
      have HD3 := hid (HD.out.drew.call hb3)
      have HW3 := hid (HW.out.drew.trans (hb3.mono HW.out.drew.size))
      clear hb3
      go_wp2_with fail
      refine hK.out _ _ (HS6.out _ HD3.out) (fun hHeld => ?_)
      clear hK K
      try simp only [Act.put, List.setIfInBounds_toArray, List.set_cons_zero, List.set_cons_succ]
      refine wpAnyH_take (i := 20) (oi := { dst := some 48, op := Op.binOp BinOp.neq 24 (Operand.tmp 41) (Operand.tmp 47) 24, type := 4, pos := "law.go:55", after := #[{ on := 13, ground := Ground.data }, { on := 19, ground := Ground.data }, { on := 10, ground := Ground.guard }], guard := some (10, false) }) (v := .bool false) rfl (by kernel_rfl) (by kernel_rfl) (by kernel_rfl) (fun _ _ _ h => h) (Or.inl ⟨by rfl, fun wS hSw => ?_⟩) (by assumption) ?_
      · clear hHeld
        have hee := HEq.out
        clear hSw
        go_simp
      try simp only [Act.put, List.setIfInBounds_toArray, List.set_cons_zero, List.set_cons_succ]
      refine wpAnyH_take (i := 21) (oi := { dst := some 49, op := Op.pick (Operand.tmp 38) (Operand.const (Value.bool true)) (Operand.tmp 48), type := 4, pos := "law.go:55", after := #[{ on := 10, ground := Ground.data }, { on := 20, ground := Ground.data }], guard := none }) (v := .bool false) rfl (by kernel_rfl) (by kernel_rfl) (by kernel_rfl) (fun _ _ _ h => h) (Or.inl ⟨by rfl, fun wS hSw => ?_⟩) (by assumption) ?_
      · clear hHeld
        clear hSw
        go_simp
      try simp only [Act.put, List.setIfInBounds_toArray, List.set_cons_zero, List.set_cons_succ]
      refine wpAnyH_done (by kernel_rfl) ?_ _
      clear hHeld
      go_wp2_with fail
      go_roundw
      case rel => exact ⟨k + 1, by go_num, by omega, HD3.out, HW3.out⟩
      case measure => simp [intOf]; omega

    · obtain rfl : k = 64 := by omega
      go_wp2_with fail
      refine (HEm.out _ HD.out.vb).mono ?_; rintro e w2 ⟨rfl, rfl⟩
      go_wp2_with fail
      refine (HOm.out _ HD.out.vb).mono ?_; rintro e w2 ⟨rfl, rfl⟩
      go_wp2_with fail
      refine (HOs.out _ HD.out.vb).mono ?_; rintro e w2 ⟨rfl, rfl⟩
      go_wp2_with fail
      go_ret
      exact ⟨rfl, HW.out⟩

end Go.Proofs.Ytdicjnkbmlamgaa
