/- BpTake. -/
import Derived.Test.YtbfllifgmlkndaaGreatDoorM38
import Derived.Test.YtbfllifgmlkndaaGreatDoorM28
import Derived.Test.YtbfllifgmlkndaaGreatDoorM42
namespace Go.Proofs.YtbfllifgmlkndaaGreatDoor
open Go.RowKit
open Slot

set_option maxHeartbeats 8000000 in
set_option maxRecDepth 100000 in
theorem utake_any (B b vb : Nat) (F : Nat → Prop) (v : Vw) (O : List (Int × Bs)) (s : Bs) (w : World) (hB : BB B w F b vb v O) (hE : Env w) (h7 : 7 ≤ B) (hOk : v.Ok 1000000) (hO : O.length ≤ 800000) (hsl : s.length ≤ 281474976710656) :
    Calls Tryz.prog 17 #[.pointer (some ⟨b, 0, none⟩), .string ⟨s.toArray⟩] w (BusP B b vb F (bView v s) (O ++ bOut v s) (.bool (bTake v s)) w) := by
  have HB := hid hB
  have HE := hid hE
  have HLt := hid hB.lt
  have HO := hid hO
  have H7 := hid h7
  have HDe := hid (decode_any s w hE hsl)
  have HTk := hid (fun W (h : VB W vb v) => ptake_any vb v (decPk s) W h hOk)
  have HAl := hid (answ_len2 v (decPk s))
  obtain ⟨DP, hDP⟩ : ∃ p, decPk s = p := ⟨_, rfl⟩
  obtain ⟨DE, hDE⟩ : ∃ p, decE s = p := ⟨_, rfl⟩
  have HT : Hid (bTake v s = (decide (DE = 0) && decide (DP.frm ≠ v.self)) ∧ bView v s = (if bTake v s = true then takeV v DP else v) ∧ bOut v s = if bTake v s = true then outs DP.frm (answV v DP) else []) := by
    rw [← hDP, ← hDE]; exact ⟨rfl, rfl, rfl⟩
  rw [hDP] at HDe HTk HAl
  rw [hDE] at HDe
  have iP : (Tryz.prog.info? 53).map (·.size) = some (pkCells DP).size := infoPk DP
  have iPl : (Tryz.prog.info? 53).map (·.size) = some (pkCells DP).toList.length := infoPl DP
  have oP := onePk DP
  have zP : Tryz.zeroCells53.size = (pkCells DP).size := by rw [pkCells_size]; exact zsize
  have HPb : Hid (∀ W b, W.heap[b]? = some (.cells (pkCells DP) 53 (0, 0)) → PBox W b DP) := fun W b h => h
  obtain ⟨PC, hPC⟩ : ∃ C, pkCells DP = C := ⟨_, rfl⟩
  rw [hPC] at HDe HTk HPb iP iPl oP zP
  obtain ⟨FR, hFR⟩ : ∃ f, DP.frm = f := ⟨_, rfl⟩
  obtain ⟨me, hme⟩ : ∃ m, v.self = m := ⟨_, rfl⟩
  have HFM := hid (And.intro hFR hme)
  have HNo : Hid (∀ w', bTake v s = false → Below w.heap.size w w' → BusP B b vb F (bView v s) (O ++ bOut v s) (.bool (bTake v s)) w (.returned (.bool false)) w') := fun w' h hb => by
    rw [HT.out.2.1, HT.out.2.2, h, if_neg (by decide), if_neg (by decide), List.append_nil]
    exact ⟨rfl, F, HB.out.call hb, Kp.of_below hb (Nat.le_refl _)⟩
  clear hB hE h7 hOk hO hsl hDP hDE hPC hFR hme
  go_enter Tryz.func17, Tryz.ntmps17
  go_wp2_with fail
  refine HDe.out.mono ?_; rintro r w2 ⟨rfl, hb2⟩
  have HZ2 := hid (heap_alloc_new w2 (.cells Tryz.zeroCells53 53))
  have hb3 := below_setRow (g := w2.heap.size) (hb2.alloc hb2.size (.cells Tryz.zeroCells53 53)) hb2.size PC
  have HP3 := hid (setRow_heap (w2.alloc (.cells Tryz.zeroCells53 53)) w2.heap.size _ PC _ _ HZ2.out)
  have HW3 := hid hb3
  have hs2 := hb2.size
  clear hb2 hb3 HDe
  go_upto_region 2 with (refine wpList_store_row rfl 53 _ _ rfl w2.heap.size PC rfl rfl 53 _ HZ2.out iP zP oP ?_)
  clear HZ2
  generalize (w2.alloc (.cells Tryz.zeroCells53 53)).setRow w2.heap.size PC = w3 at *
  obtain ⟨pb, hpb⟩ : ∃ x, w2.heap.size = x := ⟨_, rfl⟩
  rw [hpb] at HP3 hs2 ⊢
  clear hpb
  have HB3 := hid (HB.out.call HW3.out)
  obtain ⟨c0, hV3, hFv, -⟩ := HB3.out.view
  have HV3 := hid hV3
  have HFv := hid hFv
  obtain ⟨-, p1, -, -, -⟩ := (HPb.out _ _ HP3.out).cells
  rw [HFM.out.1] at p1
  have pr := row_range HP3.out
  have HS3 := hid (And.intro c0 (And.intro p1 pr))
  have HPs2 := hid hs2
  clear hV3 hFv hs2 c0 p1 pr
  refine wp_region_noPanic ?_
  by_cases hD : ¬ DE = 0
  · have hDb : (DE != 0) = true := by rw [bne_iff_ne]; exact hD
    have HFl : Hid (bTake v s = false) := by show _ = _; rw [HT.out.1, decide_eq_false hD]; rfl
    clear hD
    refine wp_region_held_drew (S := fun W => W.cell? ⟨b, 0, none⟩ = some (.pointer (some ⟨vb, 0, none⟩)) ∧ W.cell? ⟨pb, 1, none⟩ = some (.int .i64 FR) ∧ W.rangeAt pb 0 PC.toList) (by kernel_rfl) HS3.out (fun hHeld => ?_)
    refine wpAnyH_take (i := 0) (oi := { dst := some 12, op := Op.move (Operand.tmp 6), type := 29, pos := "bus.go:41", after := #[], guard := none }) (v := .int .i64 DE) rfl (by kernel_rfl) (by kernel_rfl) (by kernel_rfl) (fun _ _ _ h => h) (Or.inl ⟨by rfl, fun wS hSw => ?_⟩) (by assumption) ?_
    · clear hHeld
      clear hSw
      go_simp
    try simp only [Act.put, List.setIfInBounds_toArray, List.set_cons_zero, List.set_cons_succ]
    refine wpAnyH_take (i := 1) (oi := { dst := some 13, op := Op.binOp BinOp.neq 29 (Operand.tmp 12) (Operand.const (Value.int IntKind.i64 0)) 29, type := 4, pos := "bus.go:41", after := #[{ on := 0, ground := Ground.data }], guard := none }) (v := .bool true) rfl (by kernel_rfl) (by kernel_rfl) (by kernel_rfl) (fun _ _ _ h => h) (Or.inl ⟨by rfl, fun wS hSw => ?_⟩) (by assumption) ?_
    · clear hHeld
      have hdd := hDb
      clear hSw
      go_simp
    try simp only [Act.put, List.setIfInBounds_toArray, List.set_cons_zero, List.set_cons_succ]
    refine wpAnyH_take (i := 2) (oi := { dst := some 14, op := Op.move (Operand.tmp 13), type := 4, pos := "bus.go:41", after := #[{ on := 1, ground := Ground.data }], guard := none }) (v := .bool true) rfl (by kernel_rfl) (by kernel_rfl) (by kernel_rfl) (fun _ _ _ h => h) (Or.inl ⟨by rfl, fun wS hSw => ?_⟩) (by assumption) ?_
    · clear hHeld
      clear hSw
      go_simp
    try simp only [Act.put, List.setIfInBounds_toArray, List.set_cons_zero, List.set_cons_succ]
    refine wpAnyH_take (i := 3) (oi := { dst := some 15, op := Op.fieldAddr 53 (Operand.tmp 5) 1, type := 0, pos := "bus.go:41", after := #[{ on := 2, ground := Ground.guard }], guard := some (2, false) }) (v := undef) rfl (by kernel_rfl) (by kernel_rfl) (by kernel_rfl) (fun _ _ _ h => h) (Or.inr ⟨by rfl, rfl⟩) (by assumption) ?_
    try simp only [Act.put, List.setIfInBounds_toArray, List.set_cons_zero, List.set_cons_succ]
    refine wpAnyH_take (i := 4) (oi := { dst := some 16, op := Op.load 3 (Operand.tmp 15), type := 3, pos := "bus.go:41", after := #[{ on := 3, ground := Ground.data }, { on := 2, ground := Ground.guard }], guard := some (2, false) }) (v := undef) rfl (by kernel_rfl) (by kernel_rfl) (by kernel_rfl) (fun _ _ _ h => h) (Or.inr ⟨by rfl, rfl⟩) (by assumption) ?_
    try simp only [Act.put, List.setIfInBounds_toArray, List.set_cons_zero, List.set_cons_succ]
    refine wpAnyH_take (i := 5) (oi := { dst := some 17, op := Op.move (Operand.tmp 0), type := 28, pos := "bus.go:41", after := #[{ on := 2, ground := Ground.guard }], guard := some (2, false) }) (v := undef) rfl (by kernel_rfl) (by kernel_rfl) (by kernel_rfl) (fun _ _ _ h => h) (Or.inr ⟨by rfl, rfl⟩) (by assumption) ?_
    try simp only [Act.put, List.setIfInBounds_toArray, List.set_cons_zero, List.set_cons_succ]
    refine wpAnyH_take (i := 6) (oi := { dst := some 18, op := Op.nilCheck (Operand.tmp 17), type := 0, pos := "bus.go:41", after := #[{ on := 5, ground := Ground.data }, { on := 2, ground := Ground.guard }], guard := some (2, false) }) (v := undef) rfl (by kernel_rfl) (by kernel_rfl) (by kernel_rfl) (fun _ _ _ h => h) (Or.inr ⟨by rfl, rfl⟩) (by assumption) ?_
    try simp only [Act.put, List.setIfInBounds_toArray, List.set_cons_zero, List.set_cons_succ]
    refine wpAnyH_take (i := 7) (oi := { dst := some 19, op := Op.fieldAddr 77 (Operand.tmp 18) 0, type := 0, pos := "bus.go:41", after := #[{ on := 6, ground := Ground.data }, { on := 2, ground := Ground.guard }], guard := some (2, false) }) (v := undef) rfl (by kernel_rfl) (by kernel_rfl) (by kernel_rfl) (fun _ _ _ h => h) (Or.inr ⟨by rfl, rfl⟩) (by assumption) ?_
    try simp only [Act.put, List.setIfInBounds_toArray, List.set_cons_zero, List.set_cons_succ]
    refine wpAnyH_take (i := 8) (oi := { dst := some 20, op := Op.load 50 (Operand.tmp 19), type := 50, pos := "bus.go:41", after := #[{ on := 7, ground := Ground.data }, { on := 2, ground := Ground.guard }], guard := some (2, false) }) (v := undef) rfl (by kernel_rfl) (by kernel_rfl) (by kernel_rfl) (fun _ _ _ h => h) (Or.inr ⟨by rfl, rfl⟩) (by assumption) ?_
    try simp only [Act.put, List.setIfInBounds_toArray, List.set_cons_zero, List.set_cons_succ]
    refine wpAnyH_take (i := 9) (oi := { dst := some 21, op := Op.call { callee := Callee.value (Operand.func 35), args := #[Operand.tmp 20], argTypes := #[50] }, type := 3, pos := "bus.go:41", after := #[{ on := 8, ground := Ground.data }, { on := 2, ground := Ground.chain }, { on := 2, ground := Ground.guard }], guard := some (2, false) }) (v := undef) rfl (by kernel_rfl) (by kernel_rfl) (by kernel_rfl) (fun _ _ _ h => h) (Or.inr ⟨by rfl, rfl⟩) (by assumption) ?_
    try simp only [Act.put, List.setIfInBounds_toArray, List.set_cons_zero, List.set_cons_succ]
    refine wpAnyH_take (i := 10) (oi := { dst := some 22, op := Op.binOp BinOp.eql 3 (Operand.tmp 16) (Operand.tmp 21) 3, type := 4, pos := "bus.go:41", after := #[{ on := 4, ground := Ground.data }, { on := 9, ground := Ground.data }, { on := 2, ground := Ground.guard }], guard := some (2, false) }) (v := undef) rfl (by kernel_rfl) (by kernel_rfl) (by kernel_rfl) (fun _ _ _ h => h) (Or.inr ⟨by rfl, rfl⟩) (by assumption) ?_
    try simp only [Act.put, List.setIfInBounds_toArray, List.set_cons_zero, List.set_cons_succ]
    refine wpAnyH_take (i := 11) (oi := { dst := some 23, op := Op.pick (Operand.tmp 14) (Operand.const (Value.bool true)) (Operand.tmp 22), type := 4, pos := "bus.go:41", after := #[{ on := 2, ground := Ground.data }, { on := 10, ground := Ground.data }], guard := none }) (v := .bool true) rfl (by kernel_rfl) (by kernel_rfl) (by kernel_rfl) (fun _ _ _ h => h) (Or.inl ⟨by rfl, fun wS hSw => ?_⟩) (by assumption) ?_
    · clear hHeld
      clear hSw
      go_simp
    try simp only [Act.put, List.setIfInBounds_toArray, List.set_cons_zero, List.set_cons_succ]
    refine wpAnyH_done (by kernel_rfl) ?_ _
    refine NoPanic.normal ?_
    clear hHeld
    go_wp2_with fail
    go_ret
    exact HNo.out _ HFl.out HW3.out.drew
  obtain rfl : DE = 0 := Classical.not_not.1 hD
  clear hD
  by_cases hF : FR = (me : Int)
  · subst hF
    have HFl : Hid (bTake v s = false) := by show _ = _; rw [HT.out.1, HFM.out.1, HFM.out.2]; simp
    refine wp_region_held_drew (S := fun W => W.cell? ⟨b, 0, none⟩ = some (.pointer (some ⟨vb, 0, none⟩)) ∧ W.cell? ⟨pb, 1, none⟩ = some (.int .i64 (me : Int)) ∧ W.rangeAt pb 0 PC.toList) (by kernel_rfl) HS3.out (fun hHeld => ?_)
    refine wpAnyH_take (i := 0) (oi := { dst := some 12, op := Op.move (Operand.tmp 6), type := 29, pos := "bus.go:41", after := #[], guard := none }) (v := .int .i64 0) rfl (by kernel_rfl) (by kernel_rfl) (by kernel_rfl) (fun _ _ _ h => h) (Or.inl ⟨by rfl, fun wS hSw => ?_⟩) (by assumption) ?_
    · clear hHeld
      clear hSw
      go_simp
    try simp only [Act.put, List.setIfInBounds_toArray, List.set_cons_zero, List.set_cons_succ]
    refine wpAnyH_take (i := 1) (oi := { dst := some 13, op := Op.binOp BinOp.neq 29 (Operand.tmp 12) (Operand.const (Value.int IntKind.i64 0)) 29, type := 4, pos := "bus.go:41", after := #[{ on := 0, ground := Ground.data }], guard := none }) (v := .bool false) rfl (by kernel_rfl) (by kernel_rfl) (by kernel_rfl) (fun _ _ _ h => h) (Or.inl ⟨by rfl, fun wS hSw => ?_⟩) (by assumption) ?_
    · clear hHeld
      clear hSw
      go_simp
    try simp only [Act.put, List.setIfInBounds_toArray, List.set_cons_zero, List.set_cons_succ]
    refine wpAnyH_take (i := 2) (oi := { dst := some 14, op := Op.move (Operand.tmp 13), type := 4, pos := "bus.go:41", after := #[{ on := 1, ground := Ground.data }], guard := none }) (v := .bool false) rfl (by kernel_rfl) (by kernel_rfl) (by kernel_rfl) (fun _ _ _ h => h) (Or.inl ⟨by rfl, fun wS hSw => ?_⟩) (by assumption) ?_
    · clear hHeld
      clear hSw
      go_simp
    try simp only [Act.put, List.setIfInBounds_toArray, List.set_cons_zero, List.set_cons_succ]
    refine wpAnyH_take (i := 3) (oi := { dst := some 15, op := Op.fieldAddr 53 (Operand.tmp 5) 1, type := 0, pos := "bus.go:41", after := #[{ on := 2, ground := Ground.guard }], guard := some (2, false) }) (v := .pointer (some ⟨pb, 1, none⟩)) rfl (by kernel_rfl) (by kernel_rfl) (by kernel_rfl) (fun _ _ _ h => h) (Or.inl ⟨by rfl, fun wS hSw => ?_⟩) (by assumption) ?_
    · clear hHeld
      clear hSw
      go_simp
    try simp only [Act.put, List.setIfInBounds_toArray, List.set_cons_zero, List.set_cons_succ]
    refine wpAnyH_take (i := 4) (oi := { dst := some 16, op := Op.load 3 (Operand.tmp 15), type := 3, pos := "bus.go:41", after := #[{ on := 3, ground := Ground.data }, { on := 2, ground := Ground.guard }], guard := some (2, false) }) (v := .int .i64 (me : Int)) rfl (by kernel_rfl) (by kernel_rfl) (by kernel_rfl) (fun _ _ _ h => h) (Or.inl ⟨by rfl, fun wS hSw => ?_⟩) (by assumption) ?_
    · clear hHeld
      obtain ⟨s0, s1, -⟩ := hSw
      go_simp
    try simp only [Act.put, List.setIfInBounds_toArray, List.set_cons_zero, List.set_cons_succ]
    refine wpAnyH_take (i := 5) (oi := { dst := some 17, op := Op.move (Operand.tmp 0), type := 28, pos := "bus.go:41", after := #[{ on := 2, ground := Ground.guard }], guard := some (2, false) }) (v := .pointer (some ⟨b, 0, none⟩)) rfl (by kernel_rfl) (by kernel_rfl) (by kernel_rfl) (fun _ _ _ h => h) (Or.inl ⟨by rfl, fun wS hSw => ?_⟩) (by assumption) ?_
    · clear hHeld
      clear hSw
      go_simp
    try simp only [Act.put, List.setIfInBounds_toArray, List.set_cons_zero, List.set_cons_succ]
    refine wpAnyH_take (i := 6) (oi := { dst := some 18, op := Op.nilCheck (Operand.tmp 17), type := 0, pos := "bus.go:41", after := #[{ on := 5, ground := Ground.data }, { on := 2, ground := Ground.guard }], guard := some (2, false) }) (v := .pointer (some ⟨b, 0, none⟩)) rfl (by kernel_rfl) (by kernel_rfl) (by kernel_rfl) (fun _ _ _ h => h) (Or.inl ⟨by rfl, fun wS hSw => ?_⟩) (by assumption) ?_
    · clear hHeld
      clear hSw
      go_simp
    try simp only [Act.put, List.setIfInBounds_toArray, List.set_cons_zero, List.set_cons_succ]
    refine wpAnyH_take (i := 7) (oi := { dst := some 19, op := Op.fieldAddr 77 (Operand.tmp 18) 0, type := 0, pos := "bus.go:41", after := #[{ on := 6, ground := Ground.data }, { on := 2, ground := Ground.guard }], guard := some (2, false) }) (v := .pointer (some ⟨b, 0, none⟩)) rfl (by kernel_rfl) (by kernel_rfl) (by kernel_rfl) (fun _ _ _ h => h) (Or.inl ⟨by rfl, fun wS hSw => ?_⟩) (by assumption) ?_
    · clear hHeld
      clear hSw
      go_simp
    try simp only [Act.put, List.setIfInBounds_toArray, List.set_cons_zero, List.set_cons_succ]
    refine wpAnyH_take (i := 8) (oi := { dst := some 20, op := Op.load 50 (Operand.tmp 19), type := 50, pos := "bus.go:41", after := #[{ on := 7, ground := Ground.data }, { on := 2, ground := Ground.guard }], guard := some (2, false) }) (v := .pointer (some ⟨vb, 0, none⟩)) rfl (by kernel_rfl) (by kernel_rfl) (by kernel_rfl) (fun _ _ _ h => h) (Or.inl ⟨by rfl, fun wS hSw => ?_⟩) (by assumption) ?_
    · clear hHeld
      obtain ⟨s0, s1, -⟩ := hSw
      go_simp
    try simp only [Act.put, List.setIfInBounds_toArray, List.set_cons_zero, List.set_cons_succ]
    refine wpAnyH_ready (rs := [9]) (by kernel_rfl) (by simp) ?_
    refine AllReadyH.cons (o := { dst := some 21, op := Op.call { callee := Callee.value (Operand.func 35), args := #[Operand.tmp 20], argTypes := #[50] }, type := 3, pos := "bus.go:41", after := #[{ on := 8, ground := Ground.data }, { on := 2, ground := Ground.chain }, { on := 2, ground := Ground.guard }], guard := some (2, false) }) rfl (fun K hK => ?_) AllReadyH.nil
    have hs := hid hHeld
    clear hHeld
    go_simp
    refine (self_any vb v w3.drew (HV3.out.turn rfl)).mono ?_; rintro e w4 ⟨rfl, hw4⟩
    obtain rfl : w3.drew = w4 := hw4.symm
    clear hw4
    rw [HFM.out.2]
    go_wp2_with fail
    refine hK.out _ _ hs.out (fun hHeld => ?_)
    clear hK K hs
    try simp only [Act.put, List.setIfInBounds_toArray, List.set_cons_zero, List.set_cons_succ]
    refine wpAnyH_take (i := 10) (oi := { dst := some 22, op := Op.binOp BinOp.eql 3 (Operand.tmp 16) (Operand.tmp 21) 3, type := 4, pos := "bus.go:41", after := #[{ on := 4, ground := Ground.data }, { on := 9, ground := Ground.data }, { on := 2, ground := Ground.guard }], guard := some (2, false) }) (v := .bool true) rfl (by kernel_rfl) (by kernel_rfl) (by kernel_rfl) (fun _ _ _ h => h) (Or.inl ⟨by rfl, fun wS hSw => ?_⟩) (by assumption) ?_
    · clear hHeld
      clear hSw
      go_simp
    try simp only [Act.put, List.setIfInBounds_toArray, List.set_cons_zero, List.set_cons_succ]
    refine wpAnyH_take (i := 11) (oi := { dst := some 23, op := Op.pick (Operand.tmp 14) (Operand.const (Value.bool true)) (Operand.tmp 22), type := 4, pos := "bus.go:41", after := #[{ on := 2, ground := Ground.data }, { on := 10, ground := Ground.data }], guard := none }) (v := .bool true) rfl (by kernel_rfl) (by kernel_rfl) (by kernel_rfl) (fun _ _ _ h => h) (Or.inl ⟨by rfl, fun wS hSw => ?_⟩) (by assumption) ?_
    · clear hHeld
      clear hSw
      go_simp
    try simp only [Act.put, List.setIfInBounds_toArray, List.set_cons_zero, List.set_cons_succ]
    refine wpAnyH_done (by kernel_rfl) ?_ _
    refine NoPanic.normal ?_
    clear hHeld
    go_wp2_with fail
    go_ret
    exact HNo.out _ HFl.out HW3.out.drew
  have hFb : (FR == (me : Int)) = false := beq_eq_false_iff_ne.2 hF
  have HYes : Hid (bTake v s = true) := by show _ = _; rw [HT.out.1, HFM.out.1, HFM.out.2, decide_eq_true hF]; rfl
  clear HNo hF
  refine wp_region_held_drew (S := fun W => W.cell? ⟨b, 0, none⟩ = some (.pointer (some ⟨vb, 0, none⟩)) ∧ W.cell? ⟨pb, 1, none⟩ = some (.int .i64 FR) ∧ W.rangeAt pb 0 PC.toList) (by kernel_rfl) HS3.out (fun hHeld => ?_)
  refine wpAnyH_take (i := 0) (oi := { dst := some 12, op := Op.move (Operand.tmp 6), type := 29, pos := "bus.go:41", after := #[], guard := none }) (v := .int .i64 0) rfl (by kernel_rfl) (by kernel_rfl) (by kernel_rfl) (fun _ _ _ h => h) (Or.inl ⟨by rfl, fun wS hSw => ?_⟩) (by assumption) ?_
  · clear hHeld
    clear hSw
    go_simp
  try simp only [Act.put, List.setIfInBounds_toArray, List.set_cons_zero, List.set_cons_succ]
  refine wpAnyH_take (i := 1) (oi := { dst := some 13, op := Op.binOp BinOp.neq 29 (Operand.tmp 12) (Operand.const (Value.int IntKind.i64 0)) 29, type := 4, pos := "bus.go:41", after := #[{ on := 0, ground := Ground.data }], guard := none }) (v := .bool false) rfl (by kernel_rfl) (by kernel_rfl) (by kernel_rfl) (fun _ _ _ h => h) (Or.inl ⟨by rfl, fun wS hSw => ?_⟩) (by assumption) ?_
  · clear hHeld
    clear hSw
    go_simp
  try simp only [Act.put, List.setIfInBounds_toArray, List.set_cons_zero, List.set_cons_succ]
  refine wpAnyH_take (i := 2) (oi := { dst := some 14, op := Op.move (Operand.tmp 13), type := 4, pos := "bus.go:41", after := #[{ on := 1, ground := Ground.data }], guard := none }) (v := .bool false) rfl (by kernel_rfl) (by kernel_rfl) (by kernel_rfl) (fun _ _ _ h => h) (Or.inl ⟨by rfl, fun wS hSw => ?_⟩) (by assumption) ?_
  · clear hHeld
    clear hSw
    go_simp
  try simp only [Act.put, List.setIfInBounds_toArray, List.set_cons_zero, List.set_cons_succ]
  refine wpAnyH_take (i := 3) (oi := { dst := some 15, op := Op.fieldAddr 53 (Operand.tmp 5) 1, type := 0, pos := "bus.go:41", after := #[{ on := 2, ground := Ground.guard }], guard := some (2, false) }) (v := .pointer (some ⟨pb, 1, none⟩)) rfl (by kernel_rfl) (by kernel_rfl) (by kernel_rfl) (fun _ _ _ h => h) (Or.inl ⟨by rfl, fun wS hSw => ?_⟩) (by assumption) ?_
  · clear hHeld
    clear hSw
    go_simp
  try simp only [Act.put, List.setIfInBounds_toArray, List.set_cons_zero, List.set_cons_succ]
  refine wpAnyH_take (i := 4) (oi := { dst := some 16, op := Op.load 3 (Operand.tmp 15), type := 3, pos := "bus.go:41", after := #[{ on := 3, ground := Ground.data }, { on := 2, ground := Ground.guard }], guard := some (2, false) }) (v := .int .i64 FR) rfl (by kernel_rfl) (by kernel_rfl) (by kernel_rfl) (fun _ _ _ h => h) (Or.inl ⟨by rfl, fun wS hSw => ?_⟩) (by assumption) ?_
  · clear hHeld
    obtain ⟨s0, s1, -⟩ := hSw
    go_simp
  try simp only [Act.put, List.setIfInBounds_toArray, List.set_cons_zero, List.set_cons_succ]
  refine wpAnyH_take (i := 5) (oi := { dst := some 17, op := Op.move (Operand.tmp 0), type := 28, pos := "bus.go:41", after := #[{ on := 2, ground := Ground.guard }], guard := some (2, false) }) (v := .pointer (some ⟨b, 0, none⟩)) rfl (by kernel_rfl) (by kernel_rfl) (by kernel_rfl) (fun _ _ _ h => h) (Or.inl ⟨by rfl, fun wS hSw => ?_⟩) (by assumption) ?_
  · clear hHeld
    clear hSw
    go_simp
  try simp only [Act.put, List.setIfInBounds_toArray, List.set_cons_zero, List.set_cons_succ]
  refine wpAnyH_take (i := 6) (oi := { dst := some 18, op := Op.nilCheck (Operand.tmp 17), type := 0, pos := "bus.go:41", after := #[{ on := 5, ground := Ground.data }, { on := 2, ground := Ground.guard }], guard := some (2, false) }) (v := .pointer (some ⟨b, 0, none⟩)) rfl (by kernel_rfl) (by kernel_rfl) (by kernel_rfl) (fun _ _ _ h => h) (Or.inl ⟨by rfl, fun wS hSw => ?_⟩) (by assumption) ?_
  · clear hHeld
    clear hSw
    go_simp
  try simp only [Act.put, List.setIfInBounds_toArray, List.set_cons_zero, List.set_cons_succ]
  refine wpAnyH_take (i := 7) (oi := { dst := some 19, op := Op.fieldAddr 77 (Operand.tmp 18) 0, type := 0, pos := "bus.go:41", after := #[{ on := 6, ground := Ground.data }, { on := 2, ground := Ground.guard }], guard := some (2, false) }) (v := .pointer (some ⟨b, 0, none⟩)) rfl (by kernel_rfl) (by kernel_rfl) (by kernel_rfl) (fun _ _ _ h => h) (Or.inl ⟨by rfl, fun wS hSw => ?_⟩) (by assumption) ?_
  · clear hHeld
    clear hSw
    go_simp
  try simp only [Act.put, List.setIfInBounds_toArray, List.set_cons_zero, List.set_cons_succ]
  refine wpAnyH_take (i := 8) (oi := { dst := some 20, op := Op.load 50 (Operand.tmp 19), type := 50, pos := "bus.go:41", after := #[{ on := 7, ground := Ground.data }, { on := 2, ground := Ground.guard }], guard := some (2, false) }) (v := .pointer (some ⟨vb, 0, none⟩)) rfl (by kernel_rfl) (by kernel_rfl) (by kernel_rfl) (fun _ _ _ h => h) (Or.inl ⟨by rfl, fun wS hSw => ?_⟩) (by assumption) ?_
  · clear hHeld
    obtain ⟨s0, s1, -⟩ := hSw
    go_simp
  try simp only [Act.put, List.setIfInBounds_toArray, List.set_cons_zero, List.set_cons_succ]
  refine wpAnyH_ready (rs := [9]) (by kernel_rfl) (by simp) ?_
  refine AllReadyH.cons (o := { dst := some 21, op := Op.call { callee := Callee.value (Operand.func 35), args := #[Operand.tmp 20], argTypes := #[50] }, type := 3, pos := "bus.go:41", after := #[{ on := 8, ground := Ground.data }, { on := 2, ground := Ground.chain }, { on := 2, ground := Ground.guard }], guard := some (2, false) }) rfl (fun K hK => ?_) AllReadyH.nil
  have hs := hid hHeld
  clear hHeld
  go_simp
  refine (self_any vb v w3.drew (HV3.out.turn rfl)).mono ?_; rintro e w4 ⟨rfl, hw4⟩
  obtain rfl : w3.drew = w4 := hw4.symm
  clear hw4
  rw [HFM.out.2]
  go_wp2_with fail
  refine hK.out _ _ hs.out (fun hHeld => ?_)
  clear hK K hs
  try simp only [Act.put, List.setIfInBounds_toArray, List.set_cons_zero, List.set_cons_succ]
  refine wpAnyH_take (i := 10) (oi := { dst := some 22, op := Op.binOp BinOp.eql 3 (Operand.tmp 16) (Operand.tmp 21) 3, type := 4, pos := "bus.go:41", after := #[{ on := 4, ground := Ground.data }, { on := 9, ground := Ground.data }, { on := 2, ground := Ground.guard }], guard := some (2, false) }) (v := .bool false) rfl (by kernel_rfl) (by kernel_rfl) (by kernel_rfl) (fun _ _ _ h => h) (Or.inl ⟨by rfl, fun wS hSw => ?_⟩) (by assumption) ?_
  · clear hHeld
    have hdd := hFb
    clear hSw
    go_simp
  try simp only [Act.put, List.setIfInBounds_toArray, List.set_cons_zero, List.set_cons_succ]
  refine wpAnyH_take (i := 11) (oi := { dst := some 23, op := Op.pick (Operand.tmp 14) (Operand.const (Value.bool true)) (Operand.tmp 22), type := 4, pos := "bus.go:41", after := #[{ on := 2, ground := Ground.data }, { on := 10, ground := Ground.data }], guard := none }) (v := .bool false) rfl (by kernel_rfl) (by kernel_rfl) (by kernel_rfl) (fun _ _ _ h => h) (Or.inl ⟨by rfl, fun wS hSw => ?_⟩) (by assumption) ?_
  · clear hHeld
    clear hSw
    go_simp
  try simp only [Act.put, List.setIfInBounds_toArray, List.set_cons_zero, List.set_cons_succ]
  refine wpAnyH_done (by kernel_rfl) ?_ _
  refine NoPanic.normal ?_
  clear hHeld
  go_upto_region 4 with fail
  have HB4 := hid HB3.out.drew
  have HV4 : Hid (VB w3.drew vb v) := HV3.out.turn rfl
  have HW4 := hid HW3.out.drew
  have HS4 : Hid (w3.drew.cell? ⟨b, 0, none⟩ = some (.pointer (some ⟨vb, 0, none⟩)) ∧ w3.drew.cell? ⟨pb, 1, none⟩ = some (.int .i64 FR) ∧ w3.drew.rangeAt pb 0 PC.toList) := HS3.out
  have HP4 : Hid (w3.drew.heap[pb]? = some (.cells PC 53 (0, 0))) := HP3.out
  generalize w3.drew = w4 at *
  clear HS3 HB3 HV3 HW3 HP3 hFb
  refine wp_region_noPanic ?_
  refine wp_region_held_drew (S := fun W => W.cell? ⟨b, 0, none⟩ = some (.pointer (some ⟨vb, 0, none⟩)) ∧ W.cell? ⟨pb, 1, none⟩ = some (.int .i64 FR) ∧ W.rangeAt pb 0 PC.toList) (by kernel_rfl) HS4.out (fun hHeld => ?_)
  refine wpAnyH_take (i := 0) (oi := { dst := some 24, op := Op.move (Operand.tmp 0), type := 28, pos := "bus.go:44", after := #[], guard := none }) (v := .pointer (some ⟨b, 0, none⟩)) rfl (by kernel_rfl) (by kernel_rfl) (by kernel_rfl) (fun _ _ _ h => h) (Or.inl ⟨by rfl, fun wS hSw => ?_⟩) (by assumption) ?_
  · clear hHeld
    clear hSw
    go_simp
  try simp only [Act.put, List.setIfInBounds_toArray, List.set_cons_zero, List.set_cons_succ]
  refine wpAnyH_take (i := 1) (oi := { dst := some 25, op := Op.fieldAddr 53 (Operand.tmp 5) 1, type := 0, pos := "bus.go:44", after := #[], guard := none }) (v := .pointer (some ⟨pb, 1, none⟩)) rfl (by kernel_rfl) (by kernel_rfl) (by kernel_rfl) (fun _ _ _ h => h) (Or.inl ⟨by rfl, fun wS hSw => ?_⟩) (by assumption) ?_
  · clear hHeld
    clear hSw
    go_simp
  try simp only [Act.put, List.setIfInBounds_toArray, List.set_cons_zero, List.set_cons_succ]
  refine wpAnyH_take (i := 2) (oi := { dst := some 26, op := Op.load 3 (Operand.tmp 25), type := 3, pos := "bus.go:44", after := #[{ on := 1, ground := Ground.data }], guard := none }) (v := .int .i64 FR) rfl (by kernel_rfl) (by kernel_rfl) (by kernel_rfl) (fun _ _ _ h => h) (Or.inl ⟨by rfl, fun wS hSw => ?_⟩) (by assumption) ?_
  · clear hHeld
    obtain ⟨s0, s1, -⟩ := hSw
    go_simp
  try simp only [Act.put, List.setIfInBounds_toArray, List.set_cons_zero, List.set_cons_succ]
  refine wpAnyH_take (i := 5) (oi := { dst := some 29, op := Op.move (Operand.tmp 0), type := 28, pos := "bus.go:44", after := #[], guard := none }) (v := .pointer (some ⟨b, 0, none⟩)) rfl (by kernel_rfl) (by kernel_rfl) (by kernel_rfl) (fun _ _ _ h => h) (Or.inl ⟨by rfl, fun wS hSw => ?_⟩) (by assumption) ?_
  · clear hHeld
    clear hSw
    go_simp
  try simp only [Act.put, List.setIfInBounds_toArray, List.set_cons_zero, List.set_cons_succ]
  refine wpAnyH_take (i := 6) (oi := { dst := some 30, op := Op.nilCheck (Operand.tmp 29), type := 0, pos := "bus.go:44", after := #[{ on := 5, ground := Ground.data }], guard := none }) (v := .pointer (some ⟨b, 0, none⟩)) rfl (by kernel_rfl) (by kernel_rfl) (by kernel_rfl) (fun _ _ _ h => h) (Or.inl ⟨by rfl, fun wS hSw => ?_⟩) (by assumption) ?_
  · clear hHeld
    clear hSw
    go_simp
  try simp only [Act.put, List.setIfInBounds_toArray, List.set_cons_zero, List.set_cons_succ]
  refine wpAnyH_take (i := 7) (oi := { dst := some 31, op := Op.fieldAddr 77 (Operand.tmp 30) 0, type := 0, pos := "bus.go:44", after := #[{ on := 6, ground := Ground.data }], guard := none }) (v := .pointer (some ⟨b, 0, none⟩)) rfl (by kernel_rfl) (by kernel_rfl) (by kernel_rfl) (fun _ _ _ h => h) (Or.inl ⟨by rfl, fun wS hSw => ?_⟩) (by assumption) ?_
  · clear hHeld
    clear hSw
    go_simp
  try simp only [Act.put, List.setIfInBounds_toArray, List.set_cons_zero, List.set_cons_succ]
  refine wpAnyH_take (i := 8) (oi := { dst := some 32, op := Op.load 50 (Operand.tmp 31), type := 50, pos := "bus.go:44", after := #[{ on := 7, ground := Ground.data }], guard := none }) (v := .pointer (some ⟨vb, 0, none⟩)) rfl (by kernel_rfl) (by kernel_rfl) (by kernel_rfl) (fun _ _ _ h => h) (Or.inl ⟨by rfl, fun wS hSw => ?_⟩) (by assumption) ?_
  · clear hHeld
    obtain ⟨s0, s1, -⟩ := hSw
    go_simp
  try simp only [Act.put, List.setIfInBounds_toArray, List.set_cons_zero, List.set_cons_succ]
  refine wpAnyH_take (i := 9) (oi := { dst := some 33, op := Op.load 53 (Operand.tmp 5), type := 53, pos := "bus.go:44", after := #[], guard := none }) (v := .agg PC) rfl (by kernel_rfl) (by kernel_rfl) (by kernel_rfl) (fun _ _ _ h => h) (yieldsIf_load_arr Array.toArray_toList (by rfl) _ _ rfl _ _ rfl (fun _ h => h.2.2) Tryz.underlying53 rfl iPl) (by assumption) ?_
  try simp only [Act.put, List.setIfInBounds_toArray, List.set_cons_zero, List.set_cons_succ]
  refine wpAnyH_ready (rs := [3]) (by kernel_rfl) (by simp) ?_
  refine AllReadyH.cons (o := { dst := some 27, op := Op.call { callee := Callee.value (Operand.func 42), args := #[Operand.tmp 24, Operand.tmp 26], argTypes := #[28, 3] }, type := 101, pos := "bus.go:44", after := #[{ on := 0, ground := Ground.data }, { on := 2, ground := Ground.data }], guard := none }) rfl (fun K hK => ?_) AllReadyH.nil
  clear hHeld
  go_simp
  refine (road_any b FR _).mono ?_; rintro e w5 ⟨rfl, hb5⟩
  have HB5 := hid (HB4.out.drew.call hb5)
  have HW5 : Hid (Below w.heap.size w w5) := HW4.out.drew.trans (hb5.mono HW4.out.size)
  have HP5 : Hid (w5.heap[pb]? = some (.cells PC 53 (0, 0))) := (hb5.block _ (Array.getElem?_eq_some_iff.1 HP4.out).1).trans HP4.out
  clear hb5 HB4 HW4 HP4 HS4 HV4
  obtain ⟨-, p1, -, -, -⟩ := (HPb.out _ _ HP5.out).cells
  rw [HFM.out.1] at p1
  have HS5 := hid (And.intro HB5.out.view.1 (And.intro p1 (row_range HP5.out)))
  clear p1
  go_wp2_with fail
  refine hK.out _ _ HS5.out (fun hHeld => ?_)
  clear hK K HS5
  try simp only [Act.put, List.setIfInBounds_toArray, List.set_cons_zero, List.set_cons_succ]
  refine wpAnyH_take (i := 4) (oi := { dst := some 28, op := Op.makeFunc (Fn.func 43) #[Operand.tmp 27] #[], type := 99, pos := "bus.go:44", after := #[{ on := 3, ground := Ground.data }], guard := none }) (v := .func (.func 43) #[.agg #[.pointer (some ⟨b, 0, none⟩), .int .i64 FR]] #[]) rfl (by kernel_rfl) (by kernel_rfl) (by kernel_rfl) (fun _ _ _ h => h) (Or.inl ⟨by rfl, fun wS hSw => ?_⟩) (by assumption) ?_
  · clear hHeld
    clear hSw
    go_simp
  try simp only [Act.put, List.setIfInBounds_toArray, List.set_cons_zero, List.set_cons_succ]
  refine wpAnyH_ready (rs := [10]) (by kernel_rfl) (by simp) ?_
  refine AllReadyH.cons (o := { dst := some 34, op := Op.call { callee := Callee.value (Operand.func 44), args := #[Operand.tmp 32, Operand.tmp 33], argTypes := #[50, 53] }, type := 103, pos := "bus.go:44", after := #[{ on := 8, ground := Ground.data }, { on := 9, ground := Ground.data }, { on := 3, ground := Ground.chain }], guard := none }) rfl (fun K hK => ?_) AllReadyH.nil
  clear hHeld
  have HTk5 := hid (HTk.out w5 HB5.out.view.2.1)
  go_simp
  refine HTk5.out.mono ?_; rintro e w6 ⟨x, rfl, hop, hv6, hon⟩
  obtain ⟨hB6, hk6⟩ := HB5.out.view.2.2.2 w6 _ hv6 hon
  obtain ⟨a6, c6, rfl, hlt6, hpk6⟩ := hop.shape
  have HB6 := hid hB6
  have HK6 : Hid (Kp F F w w6) := (Kp.of_below HW5.out (Nat.le_refl _)).trans hk6
  have HPk6 := hid hpk6
  have HX6 : Hid (∀ x, a6 = some x → x.block < w6.heap.size ∧ ¬ F x.block) := fun x e => ⟨(hlt6 x e).1, fun c => by have h1 := HLt.out _ c; have h2 := (hlt6 x e).2; have h3 := HW5.out.size; omega⟩
  have hne : pb ≠ vb := fun e => by
    have h1 := HLt.out _ HFv.out
    have h2 := HPs2.out
    omega
  have HP6 : Hid (w6.heap[pb]? = some (.cells PC 53 (0, 0))) := (hon.block _ (Array.getElem?_eq_some_iff.1 HP5.out).1 hne).trans HP5.out
  obtain ⟨-, p1, -, -, -⟩ := (HPb.out _ _ HP6.out).cells
  rw [HFM.out.1] at p1
  have HS6 := hid (And.intro HB6.out.view.1 (And.intro p1 (row_range HP6.out)))
  have HE6 := hid (HK6.out.env HE.out (fun k hk => Nat.le_trans H7.out (HB.out.low k hk)))
  obtain ⟨LA, hLA⟩ : ∃ l, answV v DP = l := ⟨_, rfl⟩
  rw [hLA] at HPk6 HAl HT ⊢
  obtain ⟨nl, hnl⟩ : ∃ n, LA.length = n := ⟨_, rfl⟩
  rw [hnl] at HAl ⊢
  have HGo := hid (goout_any B b vb F (takeV v DP) O FR a6 LA nl c6 w6 hnl HPk6.out HX6.out HB6.out HE6.out H7.out (by have := HO.out; have := HAl.out; omega))
  clear p1 hne hop hv6 hon hB6 hk6 hlt6 hpk6 hLA hnl HTk5 HB5 HW5 HP5
  go_wp2_with fail
  refine hK.out _ _ HS6.out (fun hHeld => ?_)
  clear hK K HS6
  try simp only [Act.put, List.setIfInBounds_toArray, List.set_cons_zero, List.set_cons_succ]
  refine wpAnyH_ready (rs := [11]) (by kernel_rfl) (by simp) ?_
  refine AllReadyH.cons (o := { dst := some 35, op := Op.call { callee := Callee.value (Operand.func 41), args := #[Operand.tmp 28, Operand.tmp 34], argTypes := #[99, 103] }, type := 0, pos := "bus.go:44", after := #[{ on := 4, ground := Ground.data }, { on := 10, ground := Ground.data }, { on := 10, ground := Ground.chain }], guard := none }) rfl (fun K hK => ?_) AllReadyH.nil
  clear hHeld
  go_simp
  refine HGo.out.mono ?_; rintro e w7 ⟨⟨x, rfl⟩, F7, hB7, hk7⟩
  have HB7 := hid hB7
  have HK7 := hid (HK6.out.trans hk7)
  have HP7 : Hid (w7.heap[pb]? = some (.cells PC 53 (0, 0))) := (hk7.block _ (Array.getElem?_eq_some_iff.1 HP6.out).1 (fun c => by have h1 := HLt.out _ c; have h2 := HPs2.out; omega)).trans HP6.out
  obtain ⟨-, p1, -, -, -⟩ := (HPb.out _ _ HP7.out).cells
  rw [HFM.out.1] at p1
  have HS7 := hid (And.intro HB7.out.view.1 (And.intro p1 (row_range HP7.out)))
  clear p1 hB7 hk7 HGo
  go_wp2_with fail
  refine hK.out _ _ HS7.out (fun hHeld => ?_)
  clear hK K
  refine wpAnyH_done (by kernel_rfl) ?_ _
  refine NoPanic.normal ?_
  clear hHeld
  go_wp2_with fail
  go_ret
  rw [HT.out.2.1, HT.out.2.2, HYes.out, if_pos rfl, if_pos rfl, HFM.out.1]
  exact ⟨rfl, F7, HB7.out, HK7.out⟩

end Go.Proofs.YtbfllifgmlkndaaGreatDoor
