/- BuRef3, BpGo, BpTell, BuFew. -/
import Derived.Test.YtbfllifgmlkndaaGreatDoorM31
import Derived.Test.YtbfllifgmlkndaaGreatDoorM33
import Derived.Test.YtbfllifgmlkndaaGreatDoorM30
import Derived.Test.YtbfllifgmlkndaaGreatDoorM34
import Derived.Test.YtbfllifgmlkndaaGreatDoorM09
namespace Go.Proofs.YtbfllifgmlkndaaGreatDoor
open Go.RowKit
open Slot

def tellB (v : Vw) (t : Int) : Bool := decide (0 ≤ t) && decide (t ≤ 63) && decide (t ≠ v.self)
def tellE (v : Vw) (t : Int) : Int := if tellB v t = true then 0 else 150
noncomputable def tellO (v : Vw) (k t : Int) : List (Int × Bs) := if tellB v t = true then outs t [tellV v k] else []
theorem pks_one (w : World) (p : Pk) : Pks (w.alloc (.cells (pkCells p) 53)) (some ⟨w.heap.size, 0, none⟩) [p] := fun _ =>
  ⟨w.heap.size, 0, rfl, by simp, fun j hj i v hv => by
    obtain rfl : j = 0 := by simpa using hj
    rw [Nat.zero_mul, Nat.zero_add, cell_of_row _ _ _ _ _ _ (heap_alloc_new w _)]
    rwa [Array.getElem?_toList] at hv⟩
theorem row_range {w : World} {b : Nat} {C : Array Value} {t : TypeId} (h : w.heap[b]? = some (.cells C t (0, 0))) : w.rangeAt b 0 C.toList := fun j u hu => by
  rw [Nat.zero_add, cell_of_row _ _ _ _ _ _ h]
  rwa [Array.getElem?_toList] at hu
/-- what region 3 reads -/
def Sb (b : Nat) (RB RV : Array Value) (W : World) : Prop := W.rangeAt b 0 RB.toList ∧ W.rangeAt b 0 RV.toList
set_option maxHeartbeats 8000000 in
set_option maxRecDepth 100000 in
theorem ftell_any (self g cap cur B1 : Nat) (v : Vw) (v1 : Value) (O : List (Int × Bs)) (k t : Int) (w : World) (hs : v.self = self) (hs64 : self < 64) (hcu : v.cur = cur) (hOk : v.Ok 1000000) (hN : Nd w g v.ep v.cl) (hO : OutR B1 w v1 O) (hO6 : O.length ≤ 800000) :
    Calls Tryz.prog 28 #[.agg (rbc self g cap cur v1), .int .i64 k, .int .i64 t] w (RBu self v (O ++ tellO v k t) (.int .i64 (tellE v t)) w) := by
  subst hs hcu
  obtain ⟨a1, c1, rfl⟩ := out_shape hO
  obtain ⟨NO, hNO⟩ : ∃ n, O.length = n := ⟨_, rfl⟩
  rw [hNO] at hO ⊢
  have hbig : big = 4611686018427387904 := rfl
  have b1 := below_alloc w (.cells (rbc v.self g cap v.cur (.slice a1 NO c1)) 41)
  have b2 := below_alloc (w.alloc (.cells (rbc v.self g cap v.cur (.slice a1 NO c1)) 41)) (.cells #[.int .i64 0, .slice none 0 0, .int .u64 0, .slice none 0 0] 41)
  have e1 : (w.alloc (.cells (rbc v.self g cap v.cur (.slice a1 NO c1)) 41)).heap.size = w.heap.size + 1 := by simp
  have HW0 := hid (b1.trans (b2.mono (by omega)))
  have HB0 : Hid (((w.alloc (.cells (rbc v.self g cap v.cur (.slice a1 NO c1)) 41)).alloc (.cells #[.int .i64 0, .slice none 0 0, .int .u64 0, .slice none 0 0] 41)).heap[w.heap.size]? = some (.cells (rbc v.self g cap v.cur (.slice a1 NO c1)) 41 (0, 0))) := heap_alloc2_old w _ _
  have HR0 : Hid (((w.alloc (.cells (rbc v.self g cap v.cur (.slice a1 NO c1)) 41)).alloc (.cells #[.int .i64 0, .slice none 0 0, .int .u64 0, .slice none 0 0] 41)).heap[w.heap.size + 1]? = some (.cells #[.int .i64 0, .slice none 0 0, .int .u64 0, .slice none 0 0] 41 (0, 0))) := heap_alloc2_new w _ _
  have HO0 : Hid (OutR B1 _ (.slice a1 NO c1) O) := hid (OutR.below hO HW0.out)
  have HN0 := hid (hN.below HW0.out hN.lt)
  have HTl := hid (fun W h => rtell_any v.self g cap v.cur k v.ep v.cl W hs64 h)
  have hep : v.ep v.self < 18446744073709551616 := by have := hOk.cur; have := hOk.ep v.self; omega
  have hcu : v.cur < 18446744073709551616 := by have := hOk.cur; omega
  have HLd := hid (fun (p : Pk) (W : World) (x : Nat) (V : OutR B1 W (.slice a1 NO c1) O) (hp : Pks W (some ⟨x, 0, none⟩) [p]) (hx : x < W.heap.size) (h6 : p.epoch < 18446744073709551616 ∧ p.cur < 18446744073709551616) => laid_any v.self g cap v.cur 1 1 B1 (.slice a1 NO c1) O t (some ⟨x, 0, none⟩) [p] W rfl V hp (fun a e => by cases e; exact hx) (fun q hq => by rw [List.mem_singleton.1 hq]; exact h6) (by omega) (by omega))
  have HPe : Hid ((tellV v k).epoch < 18446744073709551616 ∧ (tellV v k).cur < 18446744073709551616) := ⟨hep, hcu⟩
  have htl : tellV v k = ⟨k, v.self, 0, v.ep v.self, v.cur, v.cl v.self⟩ := rfl
  rw [← htl] at HTl
  obtain ⟨TP, hTP⟩ : ∃ p, tellV v k = p := ⟨_, rfl⟩
  rw [hTP] at HTl HPe
  have HTP := hid hTP
  have hPs : (pkCells TP).size = 261 := pkCells_size TP
  have HOne := hid (fun W => pks_one W TP)
  have HLd1 := hid (fun W x V hp hx => HLd.out TP W x V hp hx HPe.out)
  obtain ⟨PC, hPC⟩ : ∃ C, pkCells TP = C := ⟨_, rfl⟩
  rw [hPC] at HTl hPs HOne
  obtain ⟨me, hme⟩ : ∃ m, v.self = m := ⟨_, rfl⟩
  have HMe := hid hme
  obtain ⟨RB, hRB⟩ : ∃ C, rbc v.self g cap v.cur (.slice a1 NO c1) = C := ⟨_, rfl⟩
  have HRB := hid hRB
  obtain ⟨RV, hRV⟩ : ∃ C, rvc v.self g cap v.cur = C := ⟨_, rfl⟩
  have iR : (Tryz.prog.info? 41).map (·.size) = some RB.size := by rw [← hRB]; exact infoRB rfl
  have iRl : (Tryz.prog.info? 41).map (·.size) = some RB.toList.length := by rw [Array.length_toList]; exact iR
  have iVl : (Tryz.prog.info? 34).map (·.size) = some RV.toList.length := by rw [Array.length_toList, ← hRV]; exact infoRV rfl
  have oR : RB.all (·.oneCell') = true := by rw [← hRB]; exact rbc_one _ _ _ _ _ rfl
  have hs4 : RB.size = 4 := by rw [← hRB]; rfl
  have HS4 := hid hs4
  have z4 : (#[.int .i64 0, .slice none 0 0, .int .u64 0, .slice none 0 0] : Array Value).size = RB.size := hs4.symm
  have HRg : Hid (∀ W : World, W.heap[w.heap.size]? = some (.cells RB 41 (0, 0)) → W.cell? ⟨w.heap.size, 0, none⟩ = some (.int .i64 (me : Int)) ∧ Sb w.heap.size RB RV W) := fun W h => by
    have h2 := h
    rw [← hRB] at h2
    have h3 := rbc_range h2
    rw [hRV] at h3
    rw [hme] at h2
    exact ⟨cell_of_row _ _ 0 _ _ _ h2, row_range h, h3⟩
  rw [hRB] at HW0 HB0 HR0 HO0 HN0 HLd1 ⊢
  rw [hRV] at HTl
  have HT : Hid (tellB v t = (decide (0 ≤ t) && decide (t ≤ 63) && decide (t ≠ (me : Int))) ∧ tellE v t = (if tellB v t = true then 0 else 150) ∧ tellO v k t = if tellB v t = true then outs t [TP] else []) := by
    rw [← hme, ← hTP]; exact ⟨rfl, rfl, rfl⟩
  clear b1 b2 e1 hRB hN hO hO6 hPC hme hs4 hOk hs64 hTP htl hep hcu HLd hRV hbig HPe
  go_enter Tryz.func28, Tryz.ntmps28
  go_upto_region 1 with fail
  generalize (w.alloc (.cells RB 41)).alloc (.cells #[.int .i64 0, .slice none 0 0, .int .u64 0, .slice none 0 0] 41) = w2 at *
  obtain ⟨s0, hsb⟩ := HRg.out _ HB0.out
  have HSb := hid hsb
  have HNo : Hid (tellB v t = false → RBu v.self v (O ++ tellO v k t) (.int .i64 (tellE v t)) w (.returned (.tuple #[.agg RB, .int .i64 150])) (w2.setRow (w.heap.size + 1) RB)) := fun h => by
    rw [HT.out.2.1, HT.out.2.2, h, if_neg (by decide), if_neg (by decide), List.append_nil]
    have hN5 := HN0.out.turn (setRow_other w2 (w.heap.size + 1) g RB (nd_apart HN0.out HR0.out))
    exact ⟨g, cap, .slice a1 NO c1, B1, by rw [HRB.out], hN5, hN5.lt, outr_apart HO0.out HR0.out, below_setRow HW0.out (by omega) _⟩
  clear hsb
  by_cases h1 : t < 0
  · have HE := hid (HNo.out (by rw [HT.out.1]; simp [Int.not_le.2 h1]))
    go_wp2_with (first | (refine wpList_load_row rfl 41 _ rfl w.heap.size rfl 41 _ (0, 0) _ HB0.out Tryz.underlying41 rfl iR ?_) | (refine wpList_store_row rfl 41 _ _ rfl (w.heap.size + 1) RB rfl rfl 41 _ HR0.out iR z4 oR ?_))
    refine bodyPost_ret (v := .tuple #[.agg RB, .int .i64 150]) ?_ rfl ?_
    · exact ret_rb2 rfl HS4.out rfl rfl (setRow_heap _ _ _ _ _ _ HR0.out)
    exact HE.out
  by_cases h2 : 63 < t
  · have HE := hid (HNo.out (by rw [HT.out.1]; simp [Int.not_le.2 h2]))
    go_wp2_with (first | (refine wpList_load_row rfl 41 _ rfl w.heap.size rfl 41 _ (0, 0) _ HB0.out Tryz.underlying41 rfl iR ?_) | (refine wpList_store_row rfl 41 _ _ rfl (w.heap.size + 1) RB rfl rfl 41 _ HR0.out iR z4 oR ?_))
    refine bodyPost_ret (v := .tuple #[.agg RB, .int .i64 150]) ?_ rfl ?_
    · exact ret_rb2 rfl HS4.out rfl rfl (setRow_heap _ _ _ _ _ _ HR0.out)
    exact HE.out
  by_cases h3 : t = (me : Int)
  · subst h3
    have HE := hid (HNo.out (by rw [HT.out.1]; simp))
    go_wp2_with (first | (refine wpList_load_row rfl 41 _ rfl w.heap.size rfl 41 _ (0, 0) _ HB0.out Tryz.underlying41 rfl iR ?_) | (refine wpList_store_row rfl 41 _ _ rfl (w.heap.size + 1) RB rfl rfl 41 _ HR0.out iR z4 oR ?_))
    refine bodyPost_ret (v := .tuple #[.agg RB, .int .i64 150]) ?_ rfl ?_
    · exact ret_rb2 rfl HS4.out rfl rfl (setRow_heap _ _ _ _ _ _ HR0.out)
    exact HE.out
  have HYes : Hid (tellB v t = true) := by show _ = _; rw [HT.out.1, decide_eq_true (by omega), decide_eq_true (by omega), decide_eq_true h3]; rfl
  have h3b : (t == (me : Int)) = false := beq_eq_false_iff_ne.2 h3
  clear HNo
  go_upto_region 3 with fail
  refine wp_region_noPanic ?_
  have hlw := (Array.getElem?_eq_some_iff.1 HB0.out).1
  have hlr := (Array.getElem?_eq_some_iff.1 HR0.out).1
  have HTl2 := hid (HTl.out w2.drew (HN0.out.turn rfl))
  have HLl := hid (And.intro hlw hlr)
  clear hlw hlr s0 h1 h2 h3 h3b HTl
  refine wp_region_held_drew (S := fun W => Sb w.heap.size RB RV W) (by kernel_rfl) HSb.out (fun hHeld => ?_)
  refine wpAnyH_take (i := 0) (oi := { dst := some 22, op := Op.load 41 (Operand.tmp 3), type := 41, pos := "ref.go:38", after := #[], guard := none }) (v := .agg RB) rfl (by kernel_rfl) (by kernel_rfl) (by kernel_rfl) (fun _ _ _ h => h) (yieldsIf_load_arr Array.toArray_toList (by rfl) _ _ rfl _ _ rfl (fun _ h => h.1) Tryz.underlying41 rfl iRl) (by assumption) ?_
  try simp only [Act.put, List.setIfInBounds_toArray, List.set_cons_zero, List.set_cons_succ]
  refine wpAnyH_take (i := 1) (oi := { dst := some 23, op := Op.move (Operand.tmp 2), type := 3, pos := "ref.go:38", after := #[], guard := none }) (v := .int .i64 t) rfl (by kernel_rfl) (by kernel_rfl) (by kernel_rfl) (fun _ _ _ h => h) (Or.inl ⟨by rfl, fun wS hSw => ?_⟩) (by assumption) ?_
  · clear hHeld
    clear hSw
    go_simp
  try simp only [Act.put, List.setIfInBounds_toArray, List.set_cons_zero, List.set_cons_succ]
  refine wpAnyH_take (i := 2) (oi := { dst := some 24, op := Op.fieldAddr 41 (Operand.tmp 3) 0, type := 0, pos := "ref.go:38", after := #[], guard := none }) (v := .pointer (some ⟨w.heap.size, 0, none⟩)) rfl (by kernel_rfl) (by kernel_rfl) (by kernel_rfl) (fun _ _ _ h => h) (Or.inl ⟨by rfl, fun wS hSw => ?_⟩) (by assumption) ?_
  · clear hHeld
    clear hSw
    go_simp
  try simp only [Act.put, List.setIfInBounds_toArray, List.set_cons_zero, List.set_cons_succ]
  refine wpAnyH_take (i := 3) (oi := { dst := some 25, op := Op.load 34 (Operand.tmp 24), type := 34, pos := "ref.go:38", after := #[{ on := 2, ground := Ground.data }], guard := none }) (v := .agg RV) rfl (by kernel_rfl) (by kernel_rfl) (by kernel_rfl) (fun _ _ _ h => h) (yieldsIf_load_arr Array.toArray_toList (by rfl) _ _ rfl _ _ rfl (fun _ h => h.2) Tryz.underlying34 rfl iVl) (by assumption) ?_
  try simp only [Act.put, List.setIfInBounds_toArray, List.set_cons_zero, List.set_cons_succ]
  refine wpAnyH_take (i := 4) (oi := { dst := some 26, op := Op.move (Operand.tmp 1), type := 3, pos := "ref.go:38", after := #[], guard := none }) (v := .int .i64 k) rfl (by kernel_rfl) (by kernel_rfl) (by kernel_rfl) (fun _ _ _ h => h) (Or.inl ⟨by rfl, fun wS hSw => ?_⟩) (by assumption) ?_
  · clear hHeld
    clear hSw
    go_simp
  try simp only [Act.put, List.setIfInBounds_toArray, List.set_cons_zero, List.set_cons_succ]
  refine wpAnyH_ready (rs := [5]) (by kernel_rfl) (by simp) ?_
  refine AllReadyH.cons (o := { dst := some 27, op := Op.call { callee := Callee.value (Operand.func 54), args := #[Operand.tmp 25, Operand.tmp 26], argTypes := #[34, 3] }, type := 53, pos := "ref.go:38", after := #[{ on := 3, ground := Ground.data }, { on := 4, ground := Ground.data }], guard := none }) rfl (fun K hK => ?_) AllReadyH.nil
  clear hHeld
  go_simp
  refine HTl2.out.mono ?_; rintro e w3 ⟨rfl, hb3⟩
  have HB3 := hid ((hb3.block _ HLl.out.1).trans HB0.out)
  have HR3 := hid ((hb3.block _ HLl.out.2).trans HR0.out)
  have HO3 := hid (OutR.below HO0.out (W := w2) (W' := w3) (by exact ⟨hb3.os, hb3.tape, hb3.output, hb3.size, hb3.block⟩))
  have HN3 := hid (HN0.out.below (n := w2.heap.size) (w' := w3) (by exact ⟨hb3.os, hb3.tape, hb3.output, hb3.size, hb3.block⟩) HN0.out.lt)
  have HW3 := hid (HW0.out.drew.trans (hb3.mono HW0.out.size))
  clear hb3
  go_wp2_with fail
  refine hK.out _ _ (HRg.out _ HB3.out).2 (fun hHeld => ?_)
  clear hK K
  try simp only [Act.put, List.setIfInBounds_toArray, List.set_cons_zero, List.set_cons_succ]
  refine wpAnyH_ready (rs := [6]) (by kernel_rfl) (by simp) ?_
  refine AllReadyH.cons (o := { dst := some 28, op := Op.buildSlice 103 1 #[(0, Operand.tmp 27)], type := 103, pos := "ref.go:38", after := #[{ on := 5, ground := Ground.data }], guard := none }) rfl (fun K hK => ?_) AllReadyH.nil
  rw [if_pos (by rfl)]
  refine wp_bslice _ rfl PC rfl hPs ?_
  have hb4 := below_alloc w3 (.cells PC 53)
  have HB4 := hid ((hb4.block _ (Array.getElem?_eq_some_iff.1 HB3.out).1).trans HB3.out)
  have HR4 := hid ((hb4.block _ (Array.getElem?_eq_some_iff.1 HR3.out).1).trans HR3.out)
  have HO4 := hid (OutR.below HO3.out hb4)
  have HN4 := hid (HN3.out.below hb4 HN3.out.lt)
  have HW4 := hid (HW3.out.trans (hb4.mono HW3.out.size))
  have HLd4 := hid (HLd1.out _ w3.heap.size HO4.out (HOne.out w3) (by simp))
  clear hb4 HB3 HR3 HO3 HN3 HW3
  refine hK.out _ _ (HRg.out _ HB4.out).2 (fun hHeld => ?_)
  clear hK K
  try simp only [Act.put, List.setIfInBounds_toArray, List.set_cons_zero, List.set_cons_succ]
  refine wpAnyH_ready (rs := [7]) (by kernel_rfl) (by simp) ?_
  refine AllReadyH.cons (o := { dst := some 29, op := Op.call { callee := Callee.value (Operand.func 53), args := #[Operand.tmp 22, Operand.tmp 23, Operand.tmp 28], argTypes := #[41, 3, 103] }, type := 41, pos := "ref.go:38", after := #[{ on := 0, ground := Ground.data }, { on := 1, ground := Ground.data }, { on := 6, ground := Ground.data }, { on := 5, ground := Ground.chain }], guard := none }) rfl (fun K hK => ?_) AllReadyH.nil
  clear hHeld
  go_simp
  refine HLd4.out.mono ?_; rintro e w5 ⟨v5, rfl, hO5, hb5⟩
  obtain ⟨a5, c5, rfl⟩ := out_shape hO5
  have HB5 := hid ((hb5.block _ (Array.getElem?_eq_some_iff.1 HB4.out).1).trans HB4.out)
  have HR5 := hid ((hb5.block _ (Array.getElem?_eq_some_iff.1 HR4.out).1).trans HR4.out)
  have HN5 := hid (HN4.out.below hb5 HN4.out.lt)
  have HW5 := hid (HW4.out.trans (hb5.mono HW4.out.size))
  have HO5 := hid hO5
  obtain ⟨N5, hN5⟩ : ∃ n, (O ++ outs t [TP]).length = n := ⟨_, rfl⟩
  rw [hN5] at HO5 ⊢
  obtain ⟨RB5, hRB5⟩ : ∃ C, rbc v.self g cap v.cur (.slice a5 N5 c5) = C := ⟨_, rfl⟩
  have i5 : (Tryz.prog.info? 41).map (·.size) = some RB5.size := by rw [← hRB5]; exact infoRB rfl
  have o5 : RB5.all (·.oneCell') = true := by rw [← hRB5]; exact rbc_one _ _ _ _ _ rfl
  have hs5 : RB5.size = 4 := by rw [← hRB5]; rfl
  have HS5 := hid hs5
  have z5 : (#[.int .i64 0, .slice none 0 0, .int .u64 0, .slice none 0 0] : Array Value).size = RB5.size := hs5.symm
  have HE5 := hid hRB5
  rw [hRB5]
  clear hO5 hb5 hN5 hRB5 hs5 HLd4
  go_wp2_with fail
  refine hK.out _ _ (HRg.out _ HB5.out).2 (fun hHeld => ?_)
  clear hK K
  try simp only [Act.put, List.setIfInBounds_toArray, List.set_cons_zero, List.set_cons_succ]
  refine wpAnyH_ready (rs := [8]) (by kernel_rfl) (by simp) ?_
  refine AllReadyH.cons (o := { dst := none, op := Op.store 41 (Operand.tmp 6) (Operand.tmp 29), type := 0, pos := "ref.go:38", after := #[{ on := 7, ground := Ground.data }, { on := 7, ground := Ground.chain }, { on := 0, ground := Ground.phase }, { on := 1, ground := Ground.phase }, { on := 2, ground := Ground.phase }, { on := 3, ground := Ground.phase }, { on := 4, ground := Ground.phase }, { on := 5, ground := Ground.phase }, { on := 6, ground := Ground.phase }, { on := 7, ground := Ground.phase }], guard := none }) rfl (fun K hK => ?_) AllReadyH.nil
  rw [if_pos (by rfl)]
  refine wp_store_row 41 _ _ rfl (w.heap.size + 1) RB5 rfl rfl 41 _ HR5.out i5 z5 o5 ?_
  have HB6 := hid ((setRow_other w5 (w.heap.size + 1) w.heap.size RB5 (by omega)).trans HB5.out)
  refine hK.out _ _ (HRg.out _ HB6.out).2 (fun hHeld => ?_)
  clear hK K
  simp only [Act.put]
  refine wpAnyH_ready (rs := [9]) (by kernel_rfl) (by simp) ?_
  refine AllReadyH.cons (o := { dst := some 7, op := Op.assign (Operand.const (Value.int IntKind.i64 0)), type := 29, pos := "ref.go:38", after := #[{ on := 8, ground := Ground.chain }, { on := 0, ground := Ground.phase }, { on := 1, ground := Ground.phase }, { on := 2, ground := Ground.phase }, { on := 3, ground := Ground.phase }, { on := 4, ground := Ground.phase }, { on := 5, ground := Ground.phase }, { on := 6, ground := Ground.phase }, { on := 7, ground := Ground.phase }, { on := 8, ground := Ground.phase }], guard := none }) rfl (fun K hK => ?_) AllReadyH.nil
  clear hHeld
  go_simp
  refine hK.out _ _ (HRg.out _ HB6.out).2 (fun hHeld => ?_)
  clear hK K
  try simp only [Act.put, List.setIfInBounds_toArray, List.set_cons_zero, List.set_cons_succ]
  refine wpAnyH_done (by kernel_rfl) ?_ _
  refine NoPanic.normal ?_
  clear hHeld
  go_wp2_with fail
  refine bodyPost_ret (v := .tuple #[.agg RB5, .int .i64 0]) ?_ rfl ?_
  · exact ret_rb2 rfl HS5.out rfl rfl (setRow_heap _ _ _ _ _ _ HR5.out)
  rw [HT.out.2.1, HT.out.2.2, HYes.out, if_pos rfl, if_pos rfl]
  have hN6 := HN5.out.turn (setRow_other w5 (w.heap.size + 1) g RB5 (nd_apart HN5.out HR5.out))
  exact ⟨g, cap, .slice a5 N5 c5, _, by rw [HE5.out], hN6, hN6.lt, outr_apart HO5.out HR5.out, below_setRow HW5.out (by omega) _⟩

end Go.Proofs.YtbfllifgmlkndaaGreatDoor

namespace Go.Proofs.YtbfllifgmlkndaaGreatDoor
open Go.RowKit
open Slot

def BLayP (B b vb : Nat) (F : Nat → Prop) (v : Vw) (O : List (Int × Bs)) (w : World) (e : Ending) (w' : World) : Prop := (∃ x, e = .returned x) ∧ ∃ F', BB B w' F' b vb v O ∧ Kp F F' w w'
/-- goOut, on its way -/
structure Go1 (B b vb : Nat) (F : Nat → Prop) (v : Vw) (O : List (Int × Bs)) (a : Option Addr) (L : List Pk) (w wr : World) : Prop where
  bus : ∃ F', BB B wr F' b vb v O ∧ Kp F F' w wr
  pk : Pks wr a L
  env : Env wr
theorem Go1.below {B b vb : Nat} {F : Nat → Prop} {v : Vw} {O : List (Int × Bs)} {a : Option Addr} {L : List Pk} {w wr w' : World} (h : Go1 B b vb F v O a L w wr) (hb : Below wr.heap.size wr w') (ha : ∀ x, a = some x → x.block < w.heap.size) : Go1 B b vb F v O a L w w' := by
  obtain ⟨F', h1, h2⟩ := h.bus
  exact ⟨⟨F', h1.call hb, h2.trans (Kp.of_below hb (Nat.le_refl _))⟩, h.pk.below hb (fun x e => Nat.lt_of_lt_of_le (ha x e) h2.like.size), h.env.below hb h.env.room⟩
theorem Go1.step {B b vb : Nat} {F F2 : Nat → Prop} {v : Vw} {O' : List (Int × Bs)} {a : Option Addr} {L : List Pk} {w wr w' : World} (h2 : Kp F F2 w wr) (hpk : Pks wr a L) (hE : Env wr) (h7 : ∀ k, F2 k → 7 ≤ k) (ha : ∀ x, a = some x → x.block < w.heap.size ∧ ¬ F x.block) (h : ∃ F', BB B w' F' b vb v O' ∧ Kp F2 F' wr w') : Go1 B b vb F v O' a L w w' := by
  obtain ⟨F', k1, k2⟩ := h
  refine ⟨⟨F', k1, h2.trans k2⟩, hpk.kp k2 (fun x e c => ?_), k2.env hE h7⟩
  obtain ⟨h3, h4⟩ := ha x e
  rcases h2.foot _ c with c | c
  · exact h4 c
  · omega
set_option maxHeartbeats 4000000 in
set_option maxRecDepth 100000 in
theorem goout_any (B b vb : Nat) (F : Nat → Prop) (v : Vw) (O : List (Int × Bs)) (t : Int) (a : Option Addr) (L : List Pk) (n c : Nat) (w : World) (hn : L.length = n) (hL : Pks w a L) (ha : ∀ x, a = some x → x.block < w.heap.size ∧ ¬ F x.block) (hB : BB B w F b vb v O) (hE : Env w) (h7 : 7 ≤ B) (hO : O.length + n ≤ 1000000) :
    Calls Tryz.prog 41 #[.func (.func 43) #[.agg #[.pointer (some ⟨b, 0, none⟩), .int .i64 t]] #[], .slice a n c] w (BLayP B b vb F v (O ++ outs t L) w) := by
  have HN := hid hn
  have HA := hid ha
  have H7 := hid h7
  have HO := hid hO
  have HG0 : Hid (Go1 B b vb F v O a L w w) := ⟨⟨F, hB, Kp.refl _ _⟩, hL, hE⟩
  clear hn hL ha hB hE h7
  have hnz : (n : Int) ≤ 1000000 := by omega
  clear hO
  go_enter Tryz.func41, Tryz.ntmps41
  go_wp2_with fail
  go_loopw [8] (fun c8 wr => ∃ k : Nat, k ≤ n ∧ c8 = .int .i64 k ∧ Hid (Go1 B b vb F v (O ++ outs t (L.take k)) a L w wr)) (fun c8 _ => n - (intOf c8).toNat)
  case atStart => exact ⟨0, by omega, rfl, by have := HG0.out; unfold outs; rw [List.take_zero, List.map_nil, List.append_nil]; exact this⟩
  case round =>
    clear HG0
    obtain ⟨k, hk, rfl, HG⟩ := hrel
    by_cases hlt : k < n
    · have hkz : (k : Int) < (n : Int) := by omega
      have hkL : k < L.length := by have := HN.out; omega
      obtain ⟨pb, po, rfl, hpl, h1⟩ := HG.out.pk (fun e => by rw [e] at hkL; exact absurd hkL (Nat.not_lt_zero _))
      obtain ⟨p, hp⟩ : ∃ p, L[k] = p := ⟨_, rfl⟩
      have g0 := h1 k hkL
      rw [hp] at g0
      have HRg := hid g0
      have iPl := infoPl p
      have iP := infoPk p
      have oP := onePk p
      have zP : Tryz.zeroCells53.size = (pkCells p).size := by rw [pkCells_size]; exact zsize
      have hta : (pkCells p).toList.toArray = pkCells p := Array.toArray_toList
      have HTk := hid (outs_take t L hkL)
      rw [hp] at HTk
      have HZ := hid (heap_alloc_new wr (.cells Tryz.zeroCells53 53))
      have hb2 := below_setRow (g := wr.heap.size) (below_alloc wr (.cells Tryz.zeroCells53 53)) (Nat.le_refl _) (pkCells p)
      have HP2 := hid (setRow_heap (wr.alloc (.cells Tryz.zeroCells53 53)) wr.heap.size _ (pkCells p) _ _ HZ.out)
      have HG2 := hid (HG.out.below hb2 (fun x e => (HA.out x e).1))
      have HLy : Hid (∀ W (F2 : Nat → Prop), BB B W F2 b vb v (O ++ outs t (L.take k)) → Env W → Calls Tryz.prog 43 #[.agg #[.pointer (some ⟨b, 0, none⟩), .int .i64 t], .agg (pkCells p)] W fun e w' => (∃ x, e = .returned x) ∧ ∃ F', BB B w' F' b vb v (O ++ outs t (L.take k) ++ [(t, encS p)]) ∧ Kp F2 F' W w') := fun W F2 h hE => lay_any B b vb F2 v _ t p W h hE (by
        have := HO.out
        have := HN.out
        simp [outs]
        omega)
      obtain ⟨PC, hPC⟩ : ∃ C, pkCells p = C := ⟨_, rfl⟩
      rw [hPC] at HRg iPl iP oP zP hta hb2 HP2 HG2 HLy
      clear h1 g0 hPC hp hkL hb2 HG
      go_upto_region 3 with (first | (refine wpList_load_mid rfl 53 _ rfl pb (po + k * 261) rfl _ _ HRg.out Tryz.underlying53 rfl iPl ?_; rw [hta]) | (refine wpList_store_row rfl 53 _ _ rfl wr.heap.size PC rfl rfl 53 _ HZ.out iP zP oP ?_))
      clear HZ HRg iPl zP oP hta
      generalize (wr.alloc (.cells Tryz.zeroCells53 53)).setRow wr.heap.size PC = w2 at *
      generalize wr.heap.size = xb at *
      obtain ⟨F2, hb2, hk2⟩ := HG2.out.bus
      have HLz := hid (HLy.out w2 F2 hb2 HG2.out.env)
      have HK2 := hid hk2
      have H72 : Hid (∀ k, F2 k → 7 ≤ k) := fun k hk => Nat.le_trans H7.out (hb2.low k hk)
      clear hb2 hk2 HLy
      go_wp2_with (refine wpList_load_row rfl 53 _ rfl xb rfl 53 _ (0, 0) _ HP2.out Tryz.underlying53 rfl iP ?_)
      refine HLz.out.mono ?_; rintro r w3 ⟨⟨x, rfl⟩, h3⟩
      have HG3 : Hid (Go1 B b vb F v (O ++ outs t (L.take (k + 1))) (some ⟨pb, po, none⟩) L w w3) := by
        have := Go1.step HK2.out HG2.out.pk HG2.out.env H72.out HA.out h3
        rw [List.append_assoc, ← HTk.out] at this
        exact this
      clear h3 HLz HK2 HG2
      go_wp2_with fail
      go_roundw
      case rel => exact ⟨k + 1, by omega, by go_num, HG3.out⟩
      case measure => simp [intOf]; omega
    · obtain rfl : k = n := by omega
      have hall : L.take k = L := by rw [← HN.out, List.take_length]
      rw [hall] at HG
      clear hall
      go_wp2_with fail
      go_end0
      exact ⟨⟨_, rfl⟩, HG.out.bus⟩

end Go.Proofs.YtbfllifgmlkndaaGreatDoor

namespace Go.Proofs.YtbfllifgmlkndaaGreatDoor
open Go.RowKit
open Slot

/-- what a call leaves that tells a value -/
def BusP (B b vb : Nat) (F : Nat → Prop) (v : Vw) (O : List (Int × Bs)) (x : Value) (w : World) (e : Ending) (w' : World) : Prop := e = .returned x ∧ ∃ F', BB B w' F' b vb v O ∧ Kp F F' w w'
set_option maxHeartbeats 4000000 in
set_option maxRecDepth 100000 in
theorem utell_any (B b vb : Nat) (F : Nat → Prop) (v : Vw) (O : List (Int × Bs)) (k t : Int) (w : World) (hB : BB B w F b vb v O) (hE : Env w) (h7 : 7 ≤ B) (hs : v.self < 64) (hO : O.length ≤ 800000) :
    Calls Tryz.prog 49 #[.pointer (some ⟨b, 0, none⟩), .int .i64 k, .int .i64 t] w (BusP B b vb F v (O ++ tellO v k t) (.int .i64 (tellE v t)) w) := by
  obtain ⟨c0, hV, hFv, -⟩ := hB.view
  have HSf := hid (self_any vb v w hV)
  have HV := hid hV
  have HB := hid hB
  have HE := hid hE
  have HLt := hid hB.lt
  have HO := hid hO
  have H7 := hid h7
  have HTl := hid (fun W h => tell_any vb k v W h hs)
  have HRd := hid (fun W => road_any b t W)
  have HT : Hid (tellB v t = (decide (0 ≤ t) && decide (t ≤ 63) && decide (t ≠ (v.self : Int))) ∧ tellE v t = (if tellB v t = true then 0 else 150) ∧ tellO v k t = if tellB v t = true then outs t [tellV v k] else []) := ⟨rfl, rfl, rfl⟩
  have HNo : Hid (tellB v t = false → BusP B b vb F v (O ++ tellO v k t) (.int .i64 (tellE v t)) w (.returned (.int .i64 150)) w) := fun h => by
    rw [HT.out.2.1, HT.out.2.2, h, if_neg (by decide), if_neg (by decide), List.append_nil]
    exact ⟨rfl, F, HB.out, Kp.refl _ _⟩
  have hPs : (pkCells (tellV v k)).size = 261 := pkCells_size _
  have HOne := hid (fun W => pks_one W (tellV v k))
  obtain ⟨TP, hTP⟩ : ∃ p, tellV v k = p := ⟨_, rfl⟩
  rw [hTP] at HTl HT hPs HOne
  obtain ⟨PC, hPC⟩ : ∃ C, pkCells TP = C := ⟨_, rfl⟩
  rw [hPC] at HTl hPs HOne
  obtain ⟨me, hme⟩ : ∃ m, v.self = m := ⟨_, rfl⟩
  rw [hme] at HSf HT
  clear hV hB hE hs hO h7 hTP hPC hme
  go_enter Tryz.func49, Tryz.ntmps49
  by_cases h1 : t < 0
  · have HE := hid (HNo.out (by rw [HT.out.1, decide_eq_false (by omega)]; rfl))
    go_wp2_with fail
    go_ret
    exact HE.out
  by_cases h2 : 64 ≤ t
  · have HE := hid (HNo.out (by rw [HT.out.1, decide_eq_false (show ¬ t ≤ 63 by omega)]; simp))
    go_wp2_with fail
    go_ret
    exact HE.out
  by_cases h3 : t = (me : Int)
  · have HE := hid (HNo.out (by rw [HT.out.1, decide_eq_false (show ¬ t ≠ (me : Int) from fun c => c h3)]; simp))
    subst h3
    go_wp2_with fail
    refine HSf.out.mono ?_; rintro r w2 ⟨rfl, rfl⟩
    go_wp2_with fail
    go_ret
    exact HE.out
  have HYes : Hid (tellB v t = true) := by show _ = _; rw [HT.out.1, decide_eq_true (by omega), decide_eq_true (by omega), decide_eq_true h3]; rfl
  have h3b : (t == (me : Int)) = false := beq_eq_false_iff_ne.2 h3
  clear HNo
  go_wp2_with fail
  refine HSf.out.mono ?_; rintro r w2 ⟨rfl, hw2⟩
  obtain rfl : w = w2 := hw2.symm
  go_upto_region 3 with fail
  refine wp_region_noPanic ?_
  clear h1 h2 h3 h3b HSf
  refine wp_region_held_drew (S := fun W => W.cell? ⟨b, 0, none⟩ = some (.pointer (some ⟨vb, 0, none⟩))) (by kernel_rfl) c0 (fun hHeld => ?_)
  refine wpAnyH_take (i := 0) (oi := { dst := some 22, op := Op.move (Operand.tmp 0), type := 28, pos := "bus.go:64", after := #[], guard := none }) (v := .pointer (some ⟨b, 0, none⟩)) rfl (by kernel_rfl) (by kernel_rfl) (by kernel_rfl) (fun _ _ _ h => h) (Or.inl ⟨by rfl, fun wS hSw => ?_⟩) (by assumption) ?_
  · clear hHeld
    clear hSw
    go_simp
  try simp only [Act.put, List.setIfInBounds_toArray, List.set_cons_zero, List.set_cons_succ]
  refine wpAnyH_take (i := 1) (oi := { dst := some 23, op := Op.move (Operand.tmp 2), type := 3, pos := "bus.go:64", after := #[], guard := none }) (v := .int .i64 t) rfl (by kernel_rfl) (by kernel_rfl) (by kernel_rfl) (fun _ _ _ h => h) (Or.inl ⟨by rfl, fun wS hSw => ?_⟩) (by assumption) ?_
  · clear hHeld
    clear hSw
    go_simp
  try simp only [Act.put, List.setIfInBounds_toArray, List.set_cons_zero, List.set_cons_succ]
  refine wpAnyH_take (i := 4) (oi := { dst := some 26, op := Op.move (Operand.tmp 0), type := 28, pos := "bus.go:64", after := #[], guard := none }) (v := .pointer (some ⟨b, 0, none⟩)) rfl (by kernel_rfl) (by kernel_rfl) (by kernel_rfl) (fun _ _ _ h => h) (Or.inl ⟨by rfl, fun wS hSw => ?_⟩) (by assumption) ?_
  · clear hHeld
    clear hSw
    go_simp
  try simp only [Act.put, List.setIfInBounds_toArray, List.set_cons_zero, List.set_cons_succ]
  refine wpAnyH_take (i := 5) (oi := { dst := some 27, op := Op.nilCheck (Operand.tmp 26), type := 0, pos := "bus.go:64", after := #[{ on := 4, ground := Ground.data }], guard := none }) (v := .pointer (some ⟨b, 0, none⟩)) rfl (by kernel_rfl) (by kernel_rfl) (by kernel_rfl) (fun _ _ _ h => h) (Or.inl ⟨by rfl, fun wS hSw => ?_⟩) (by assumption) ?_
  · clear hHeld
    clear hSw
    go_simp
  try simp only [Act.put, List.setIfInBounds_toArray, List.set_cons_zero, List.set_cons_succ]
  refine wpAnyH_take (i := 6) (oi := { dst := some 28, op := Op.fieldAddr 77 (Operand.tmp 27) 0, type := 0, pos := "bus.go:64", after := #[{ on := 5, ground := Ground.data }], guard := none }) (v := .pointer (some ⟨b, 0, none⟩)) rfl (by kernel_rfl) (by kernel_rfl) (by kernel_rfl) (fun _ _ _ h => h) (Or.inl ⟨by rfl, fun wS hSw => ?_⟩) (by assumption) ?_
  · clear hHeld
    clear hSw
    go_simp
  try simp only [Act.put, List.setIfInBounds_toArray, List.set_cons_zero, List.set_cons_succ]
  refine wpAnyH_take (i := 7) (oi := { dst := some 29, op := Op.load 50 (Operand.tmp 28), type := 50, pos := "bus.go:64", after := #[{ on := 6, ground := Ground.data }], guard := none }) (v := .pointer (some ⟨vb, 0, none⟩)) rfl (by kernel_rfl) (by kernel_rfl) (by kernel_rfl) (fun _ _ _ h => h) (Or.inl ⟨by rfl, fun wS hSw => ?_⟩) (by assumption) ?_
  · clear hHeld
    have s0 := hSw
    go_simp
  try simp only [Act.put, List.setIfInBounds_toArray, List.set_cons_zero, List.set_cons_succ]
  refine wpAnyH_take (i := 8) (oi := { dst := some 30, op := Op.move (Operand.tmp 1), type := 3, pos := "bus.go:64", after := #[], guard := none }) (v := .int .i64 k) rfl (by kernel_rfl) (by kernel_rfl) (by kernel_rfl) (fun _ _ _ h => h) (Or.inl ⟨by rfl, fun wS hSw => ?_⟩) (by assumption) ?_
  · clear hHeld
    clear hSw
    go_simp
  try simp only [Act.put, List.setIfInBounds_toArray, List.set_cons_zero, List.set_cons_succ]
  refine wpAnyH_ready (rs := [2]) (by kernel_rfl) (by simp) ?_
  refine AllReadyH.cons (o := { dst := some 24, op := Op.call { callee := Callee.value (Operand.func 42), args := #[Operand.tmp 22, Operand.tmp 23], argTypes := #[28, 3] }, type := 101, pos := "bus.go:64", after := #[{ on := 0, ground := Ground.data }, { on := 1, ground := Ground.data }], guard := none }) rfl (fun K hK => ?_) AllReadyH.nil
  clear hHeld
  go_simp
  refine (HRd.out _).mono ?_; rintro e w3 ⟨rfl, hb3⟩
  have HB3 := hid (HB.out.drew.call hb3)
  have HW3 : Hid (Below w.heap.size w w3) := (Below.refl _ _).drew.trans hb3
  clear hb3
  have c3 : w3.cell? ⟨b, 0, none⟩ = some (.pointer (some ⟨vb, 0, none⟩)) := (HW3.out.cell (p := ⟨b, 0, none⟩) (HLt.out b HB.out.own)).trans c0
  have HC3 := hid c3
  clear c3
  go_wp2_with fail
  refine hK.out _ _ HC3.out (fun hHeld => ?_)
  clear hK K
  try simp only [Act.put, List.setIfInBounds_toArray, List.set_cons_zero, List.set_cons_succ]
  refine wpAnyH_take (i := 3) (oi := { dst := some 25, op := Op.makeFunc (Fn.func 43) #[Operand.tmp 24] #[], type := 99, pos := "bus.go:64", after := #[{ on := 2, ground := Ground.data }], guard := none }) (v := .func (.func 43) #[.agg #[.pointer (some ⟨b, 0, none⟩), .int .i64 t]] #[]) rfl (by kernel_rfl) (by kernel_rfl) (by kernel_rfl) (fun _ _ _ h => h) (Or.inl ⟨by rfl, fun wS hSw => ?_⟩) (by assumption) ?_
  · clear hHeld
    clear hSw
    go_simp
  try simp only [Act.put, List.setIfInBounds_toArray, List.set_cons_zero, List.set_cons_succ]
  refine wpAnyH_ready (rs := [9]) (by kernel_rfl) (by simp) ?_
  refine AllReadyH.cons (o := { dst := some 31, op := Op.call { callee := Callee.value (Operand.func 75), args := #[Operand.tmp 29, Operand.tmp 30], argTypes := #[50, 3] }, type := 53, pos := "bus.go:64", after := #[{ on := 7, ground := Ground.data }, { on := 8, ground := Ground.data }, { on := 2, ground := Ground.chain }], guard := none }) rfl (fun K hK => ?_) AllReadyH.nil
  clear hHeld
  have HV3 := hid (HV.out.below HW3.out (HLt.out vb hFv))
  go_simp
  refine (HTl.out _ HV3.out).mono ?_; rintro e w4 ⟨rfl, hb4⟩
  have HB4 := hid (HB3.out.call hb4)
  have HW4 := hid (HW3.out.trans (hb4.mono HW3.out.size))
  clear hb4
  have HC4 : Hid (w4.cell? ⟨b, 0, none⟩ = some (.pointer (some ⟨vb, 0, none⟩))) := (HW4.out.cell (p := ⟨b, 0, none⟩) (HLt.out b HB.out.own)).trans c0
  go_wp2_with fail
  refine hK.out _ _ HC4.out (fun hHeld => ?_)
  clear hK K HB3 HV3 HW3 HC3
  try simp only [Act.put, List.setIfInBounds_toArray, List.set_cons_zero, List.set_cons_succ]
  refine wpAnyH_ready (rs := [10]) (by kernel_rfl) (by simp) ?_
  refine AllReadyH.cons (o := { dst := some 32, op := Op.buildSlice 103 1 #[(0, Operand.tmp 31)], type := 103, pos := "bus.go:64", after := #[{ on := 9, ground := Ground.data }], guard := none }) rfl (fun K hK => ?_) AllReadyH.nil
  rw [if_pos (by rfl)]
  refine wp_bslice _ rfl PC rfl hPs ?_
  have hb5 := below_alloc w4 (.cells PC 53)
  have HB5 := hid (HB4.out.call hb5)
  have HW5 := hid (HW4.out.trans (hb5.mono HW4.out.size))
  have HC5 : Hid ((w4.alloc (.cells PC 53)).cell? ⟨b, 0, none⟩ = some (.pointer (some ⟨vb, 0, none⟩))) := (HW5.out.cell (p := ⟨b, 0, none⟩) (HLt.out b HB.out.own)).trans c0
  have HGo := hid (goout_any B b vb F v O t (some ⟨w4.heap.size, 0, none⟩) [TP] 1 1 (w4.alloc (.cells PC 53)) rfl (HOne.out w4) (fun x e => by
    cases e
    exact ⟨by simp, fun c => by have h1 : w4.heap.size < w.heap.size := HLt.out _ c; have h2 := HW4.out.size; omega⟩) HB5.out (HE.out.below HW5.out HE.out.room) H7.out (by have := HO.out; omega))
  clear hb5 HB4
  refine hK.out _ _ HC5.out (fun hHeld => ?_)
  clear hK K HC4
  try simp only [Act.put, List.setIfInBounds_toArray, List.set_cons_zero, List.set_cons_succ]
  refine wpAnyH_ready (rs := [11]) (by kernel_rfl) (by simp) ?_
  refine AllReadyH.cons (o := { dst := some 33, op := Op.call { callee := Callee.value (Operand.func 41), args := #[Operand.tmp 25, Operand.tmp 32], argTypes := #[99, 103] }, type := 0, pos := "bus.go:64", after := #[{ on := 3, ground := Ground.data }, { on := 10, ground := Ground.data }, { on := 9, ground := Ground.chain }], guard := none }) rfl (fun K hK => ?_) AllReadyH.nil
  clear hHeld
  go_simp
  refine HGo.out.mono ?_; rintro e w6 ⟨⟨x, rfl⟩, F6, hB6, hk6⟩
  have HB6 := hid hB6
  have HK6 : Hid (Kp F F6 w w6) := (Kp.of_below HW5.out (Nat.le_refl _)).trans hk6
  have HC6 := hid hB6.view.1
  clear hB6 hk6 HGo
  go_wp2_with fail
  refine hK.out _ _ ?_ (fun hHeld => ?_)
  · exact HC6.out
  clear hK K
  refine wpAnyH_done (by kernel_rfl) ?_ _
  refine NoPanic.normal ?_
  clear hHeld
  go_wp2_with fail
  go_ret
  rw [HT.out.2.1, HT.out.2.2, HYes.out, if_pos rfl, if_pos rfl]
  exact ⟨rfl, F6, HB6.out, HK6.out⟩

end Go.Proofs.YtbfllifgmlkndaaGreatDoor

namespace Go.Proofs.YtbfllifgmlkndaaGreatDoor
open Go.RowKit
open Slot

/-- a call of the law's script -/
structure OpB where
  kind : Int
  n : Int
  slot : Int
  least : Nat
  s : Bs
def opbCells (o : OpB) : Array Value := #[.int .i64 o.kind, .int .i64 o.n, .int .i64 o.slot, .int .u64 (o.least : Int), .string ⟨o.s.toArray⟩]
theorem infoOpb (o : OpB) : (Tryz.prog.info? 43).map (·.size) = some (opbCells o).size := by show _ = some 5; kernel_rfl
theorem infoOpbl (o : OpB) : (Tryz.prog.info? 43).map (·.size) = some (opbCells o).toList.length := by rw [Array.length_toList]; exact infoOpb o
theorem opbCells_one (o : OpB) : (opbCells o).all (·.oneCell') = true := by simp [opbCells, Value.oneCell']
/-- a row of calls that may be read -/
def OpsB (w : World) (a : Option Addr) (L : List OpB) : Prop := L ≠ [] → ∃ b o, a = some ⟨b, o, none⟩ ∧ b < w.heap.size ∧ ∀ j (h : j < L.length), w.rangeAt b (o + j * 5) (opbCells L[j]).toList
theorem OpsB.below {w w' : World} {n : Nat} {a : Option Addr} {L : List OpB} (h : OpsB w a L) (hb : Below n w w') (hn : w.heap.size ≤ n) : OpsB w' a L := fun hne => by
  obtain ⟨b, o, rfl, h1, h2⟩ := h hne
  refine ⟨b, o, rfl, Nat.lt_of_lt_of_le h1 hb.size, fun j hj i v hv => ?_⟩
  rw [hb.cell (p := ⟨b, o + j * 5 + i, none⟩) (by show b < n; omega)]
  exact h2 j hj i v hv
theorem ownsB_slice {w : World} {B : Nat} {e : TypeId} {s : Nat} {v : Value} {n : Nat} {xs : List Value} (h : w.ownsRow B e s v n xs) : ∃ a c, v = .slice a n c := by
  rcases h.2 with ⟨rfl, rfl⟩ | ⟨g, cap, _, rfl, _⟩
  · exact ⟨_, _, rfl⟩
  · exact ⟨_, _, rfl⟩
theorem fbR (S : Nat → Bool) (W : World) : Calls Tryz.prog 25 #[.agg (cellsOf S)] W fun e w' => (∃ a n c, e = .returned (.slice a n c) ∧ n ≤ 16384) ∧ Below W.heap.size W w' := by
  refine (rRanges_any S W).mono ?_
  rintro e w' ⟨⟨l, v, B, rfl, hr, -, ho⟩, hb⟩
  obtain ⟨a, c, rfl⟩ := ownsB_slice ho
  exact ⟨⟨a, _, c, rfl, by have := hr.length (Nat.zero_le _); unfold top at this; omega⟩, hb⟩
theorem fbA (S : Nat → Bool) (W : World) : Calls Tryz.prog 26 #[.agg (cellsOf S)] W fun e w' => (∃ a n c, e = .returned (.slice a n c) ∧ n ≤ 16384) ∧ Below W.heap.size W w' := by
  refine (rAll_any S W).mono ?_
  rintro e w' ⟨⟨v, rfl, ho⟩, hb⟩
  obtain ⟨a, c, rfl⟩ := ownsB_slice ho
  exact ⟨⟨a, _, c, rfl, upto_len S 16384⟩, hb⟩
theorem loadB_want {P : Program} {ops : Array Oper} {rest : List Oper} {op : Oper} {a : Act} {w : World} {Q : Exit → Act → World → Prop} (hw : Region.wanted op (yielded ops a.tmps) = true) (ty : TypeId) (x : Operand) (ho : op.op = .load ty x)
    (b o : Nat) (hx : a.eval x = .pointer (some ⟨b, o, none⟩)) (cs : List Value) (d : TypeDesc) (hc : w.rangeAt b o cs)
    (hu : P.underlying ty = some d) (hd : d.isRow = true) (hi : (P.info? ty).map (·.size) = some cs.length)
    (h : wpList P ops Q rest (a.put op.dst (.agg cs.toArray)) w) : wpList P ops Q (op :: rest) a w := by
  refine wpList_step fun K hK => ?_
  rw [if_pos hw]
  exact wp_load_mid ty x ho b o hx cs d hc hu hd hi (hK _ _ h)
theorem pbox_cl {w : World} {b : Nat} {p : Pk} (h : PBox w b p) : w.rangeAt b 5 (cellsOf p.cl).toList := fun j v hv => by
  have h2 := row_range (C := pkCells p) h (5 + j) v (by
    rw [Array.getElem?_toList]
    unfold pkCells
    rw [Array.getElem?_append_right (by simp)]
    rw [Array.getElem?_toList] at hv
    simpa using hv)
  rwa [Nat.zero_add] at h2
/-- how a bus begins, as cells -/
def bbCells (self : Int) (cl : Nat → Bool) (ep : Nat) : Array Value := #[.int .i64 self] ++ cellsOf cl ++ #[.int .u64 (ep : Int)]
theorem bb_cl {w : World} {b : Nat} {self : Int} {cl : Nat → Bool} {ep : Nat} {t : TypeId} (h : w.heap[b]? = some (.cells (bbCells self cl ep) t (0, 0))) : w.rangeAt b 1 (cellsOf cl).toList := fun j v hv => by
  have hj : j < 256 := by
    have := (List.getElem?_eq_some_iff.1 hv).1
    rwa [Array.length_toList, cellsOf_size] at this
  have h2 := row_range h (1 + j) v (by
    rw [Array.getElem?_toList]
    unfold bbCells
    rw [Array.getElem?_append_left (by simp [cellsOf_size]; omega), Array.getElem?_append_right (by simp)]
    rw [Array.getElem?_toList] at hv
    simpa using hv)
  rwa [Nat.zero_add] at h2
def FewB (L : List OpB) (w : World) (e : Ending) (w' : World) : Prop := ∃ B : Bool, e = .returned (.bool B) ∧ (B = true → L.length ≤ 40 ∧ ∀ o ∈ L, o.s.length ≤ 2000) ∧ Below w.heap.size w w'
set_option maxHeartbeats 8000000 in
set_option maxRecDepth 100000 in
theorem fewb_any (self : Int) (cl : Nat → Bool) (ep : Nat) (a : Option Addr) (L : List OpB) (n c : Nat) (w : World) (hn : L.length = n) (hL : OpsB w a L) (hS : ∀ o ∈ L, o.s.length ≤ 1048576) (hm : n ≤ 9223372036854775807) : Calls Tryz.prog 9 #[.agg (bbCells self cl ep), .slice a n c] w (FewB L w) := by
  have HBb := hid (bb_cl (heap_alloc_new w (.cells (bbCells self cl ep) 26)))
  have HW0 := hid (below_alloc w (.cells (bbCells self cl ep) 26))
  have HL0 := hid (hL.below HW0.out (Nat.le_refl _))
  have HRg := hid (fun W => fbR cl W)
  have iC := infoBl (S := cl)
  have hcs : (cellsOf cl).toList.toArray = cellsOf cl := Array.toArray_toList
  have HN := hid hn
  have HS := hid hS
  obtain ⟨CS, hCS⟩ : ∃ C, cellsOf cl = C := ⟨_, rfl⟩
  rw [hCS] at HBb HRg iC hcs
  obtain ⟨BB, hBB⟩ : ∃ C, bbCells self cl ep = C := ⟨_, rfl⟩
  rw [hBB] at HBb HW0 HL0 ⊢
  clear hCS hBB hn hL hS
  by_cases h40 : 40 < n
  · have hz : (40 : Int) < (n : Int) := by omega
    go_enter Tryz.func9, Tryz.ntmps9
    go_wp2_with fail
    go_ret
    exact ⟨false, rfl, (fun h => by cases h), HW0.out⟩
  · have hz : ¬ (40 : Int) < (n : Int) := by omega
    have hD : decide ((40 : Int) < (n : Int)) = false := decide_eq_false hz
    have H40 : Hid (n ≤ 40) := by show _ ≤ _; omega
    clear h40 hm
    go_enter Tryz.func9, Tryz.ntmps9
    go_upto_region 1 with fail
    generalize w.alloc (.cells BB 26) = w1 at *
    go_wp2_with (refine loadB_want rfl 24 _ rfl w.heap.size 1 rfl _ _ HBb.out Tryz.underlying24 rfl iC ?_; rw [hcs])
    refine (HRg.out _).mono ?_; rintro e w2 ⟨⟨a1, n1, c1, rfl, h1⟩, hb⟩
    have HW2 := hid (HW0.out.trans (hb.mono HW0.out.size))
    have HL2 := hid (HL0.out.below hb (Nat.le_refl _))
    clear hb HBb
    have hz1 : (n1 : Int) ≤ 16384 := by omega
    by_cases h3 : 300 < n1
    · have hz2 : (300 : Int) < (n1 : Int) := by omega
      go_wp2_with fail
      go_ret
      exact ⟨false, rfl, (fun h => by cases h), HW2.out⟩
    · have hz2 : ¬ (300 : Int) < (n1 : Int) := by omega
      go_wp2_with fail
      clear h1 hz1 h3 hz2 HL0 HW0 HRg iC hcs hz hD
      have hn40 : (n : Int) ≤ 40 := by have := H40.out; omega
      go_loopw [21] (fun i wr => ∃ k : Nat, k ≤ n ∧ i = .int .i64 k ∧ Hid (Below w.heap.size w wr) ∧ Hid (Below w2.heap.size w2 wr) ∧ Hid (∀ j (h : j < L.length), j < k → L[j].s.length ≤ 2000)) (fun i _ => n - (intOf i).toNat)
      case atStart => exact ⟨0, by omega, rfl, HW2.out, Below.refl _ _, fun j h hj => absurd hj (Nat.not_lt_zero _)⟩
      case round =>
        obtain ⟨k, hk, rfl, HW, HB, HQ⟩ := hrel
        by_cases hlt : k < n
        · have hkz : (k : Int) < (n : Int) := by omega
          have hkL : k < L.length := by have := HN.out; omega
          obtain ⟨b, o, rfl, hbl, h1⟩ := HL2.out (fun e => by rw [e] at hkL; exact absurd hkL (Nat.not_lt_zero _))
          obtain ⟨op, hop⟩ : ∃ op, L[k] = op := ⟨_, rfl⟩
          have HOp : Hid (∀ h : k < L.length, L[k] = op) := fun _ => hop
          have g0 := h1 k hkL
          rw [hop] at g0
          have hsl := HS.out op (by rw [← hop]; exact List.getElem_mem hkL)
          have HSl := hid hsl
          have HG : Hid (wr.rangeAt b (o + k * 5) (opbCells op).toList) := fun j v hv => by
            rw [HB.out.cell (p := ⟨b, o + k * 5 + j, none⟩) hbl]; exact g0 j v hv
          have iO := infoOpbl op
          have iO2 := infoOpb op
          have oO := opbCells_one op
          have hta : (opbCells op).toList.toArray = opbCells op := Array.toArray_toList
          have HDe := hid (fun W => rdecode_any op.s W hsl)
          clear h1 g0 hop hkL hsl
          obtain ⟨OC, hOC⟩ : ∃ C, opbCells op = C := ⟨_, rfl⟩
          have HOC := hid hOC
          rw [hOC] at HG iO iO2 oO hta
          clear hOC
          have HZ := hid (heap_alloc_new wr (.cells #[.int .i64 0, .int .i64 0, .int .i64 0, .int .u64 0, .string ⟨#[]⟩] 43))
          have zs : (#[.int .i64 0, .int .i64 0, .int .i64 0, .int .u64 0, .string ⟨#[]⟩] : Array Value).size = OC.size := by have h := HOC.out; rw [← h]; rfl
          have HBx := hid (setRow_heap (wr.alloc (.cells #[.int .i64 0, .int .i64 0, .int .i64 0, .int .u64 0, .string ⟨#[]⟩] 43)) wr.heap.size _ OC _ _ HZ.out)
          have HW4 := hid (below_setRow (g := wr.heap.size) (HW.out.alloc HW.out.size (.cells #[.int .i64 0, .int .i64 0, .int .i64 0, .int .u64 0, .string ⟨#[]⟩] 43)) HW.out.size OC)
          have HB4 := hid (below_setRow (g := wr.heap.size) (HB.out.alloc HB.out.size (.cells #[.int .i64 0, .int .i64 0, .int .i64 0, .int .u64 0, .string ⟨#[]⟩] 43)) HB.out.size OC)
          go_upto_region 6 with (first | (refine wpList_load_mid rfl 43 _ rfl b (o + k * 5) rfl _ _ HG.out Tryz.underlying43 rfl iO ?_; rw [hta]) | (refine wpList_store_row rfl 43 _ _ rfl wr.heap.size OC rfl rfl 43 _ HZ.out iO2 zs oO ?_))
          generalize (wr.alloc (.cells #[.int .i64 0, .int .i64 0, .int .i64 0, .int .u64 0, .string ⟨#[]⟩] 43)).setRow wr.heap.size OC = w4 at *
          generalize wr.heap.size = ob at *
          obtain ⟨SB, hSB⟩ : ∃ S : ByteArray, ⟨op.s.toArray⟩ = S := ⟨_, rfl⟩
          have HSz : Hid (SB.size = op.s.length) := by show _ = _; rw [← hSB]; exact ba_size op.s
          have HC4 : Hid (∀ W : World, W.heap[ob]? = some (.cells OC 43 (0, 0)) → W.cell? ⟨ob, 4, none⟩ = some (.string SB)) := fun W h => by
            rw [← HOC.out] at h
            rw [← hSB]
            exact cell_of_row _ _ 4 _ _ _ h
          rw [hSB] at HDe
          have c4 := HC4.out _ HBx.out
          have HAl := hid (fun W => fbA (decPk op.s).cl W)
          have HPl := hid (fun (W : World) (b : Nat) (h : PBox W b (decPk op.s)) => pbox_cl h)
          have iCl := infoBl (S := (decPk op.s).cl)
          have hcs : (cellsOf (decPk op.s).cl).toList.toArray = cellsOf (decPk op.s).cl := Array.toArray_toList
          have iP := infoPk (decPk op.s)
          have oP := onePk (decPk op.s)
          have zP : Tryz.zeroCells53.size = (pkCells (decPk op.s)).size := by rw [pkCells_size]; exact zsize
          obtain ⟨CD, hCD⟩ : ∃ C, cellsOf (decPk op.s).cl = C := ⟨_, rfl⟩
          rw [hCD] at HAl HPl iCl hcs
          obtain ⟨PC, hPC⟩ : ∃ C, pkCells (decPk op.s) = C := ⟨_, rfl⟩
          have HPb : Hid (∀ W b, W.heap[b]? = some (.cells PC 53 (0, 0)) → PBox W b (decPk op.s)) := fun W b h => by rw [← hPC] at h; exact h
          rw [hPC] at HDe iP oP zP
          obtain ⟨DE, hDE⟩ : ∃ e, decE op.s = e := ⟨_, rfl⟩
          rw [hDE] at HDe
          clear hSB hCD hPC hDE HZ iO iO2 oO hta zs HG HW HB
          go_wp2_with fail
          refine (HDe.out _).mono ?_; rintro e w5 ⟨rfl, hb⟩
          have HBx5 := hid ((hb.block _ (Array.getElem?_eq_some_iff.1 HBx.out).1).trans HBx.out)
          have HW5 := hid (HW4.out.trans (hb.mono HW4.out.size))
          have HB5 := hid (HB4.out.trans (hb.mono HB4.out.size))
          have HZ6 := hid (heap_alloc_new w5 (.cells Tryz.zeroCells53 53))
          have hb6 := below_setRow (g := w5.heap.size) (below_alloc w5 (.cells Tryz.zeroCells53 53)) (Nat.le_refl _) PC
          have HP6 := hid (HPb.out _ _ (setRow_heap _ _ _ PC _ _ HZ6.out))
          have HBx6 := hid ((hb6.block _ (Array.getElem?_eq_some_iff.1 HBx5.out).1).trans HBx5.out)
          have HW6 := hid (HW5.out.trans (hb6.mono HW5.out.size))
          have HB6 := hid (HB5.out.trans (hb6.mono HB5.out.size))
          clear hb hb6 HBx HBx5 HW4 HW5 HB4 HB5 HPb c4
          go_upto_region 7 with (refine wpList_store_row rfl 53 _ _ rfl w5.heap.size PC rfl rfl 53 _ HZ6.out iP zP oP ?_)
          clear HZ6
          generalize (w5.alloc (.cells Tryz.zeroCells53 53)).setRow w5.heap.size PC = w6 at *
          generalize w5.heap.size = pb at *
          have c4 := HC4.out _ HBx6.out
          have HR6 := hid (HPl.out _ _ HP6.out)
          by_cases h2k : 2000 < SB.size
          · have hz1 : (2000 : Int) < (SB.size : Int) := by omega
            go_wp2_with fail
            go_ret
            exact ⟨false, rfl, (fun h => by cases h), HW6.out⟩
          · have hz1 : ¬ (2000 : Int) < (SB.size : Int) := by omega
            have hD1 : decide ((2000 : Int) < (SB.size : Int)) = false := decide_eq_false hz1
            go_wp2_with (refine loadB_want rfl 24 _ rfl pb 5 rfl _ _ HR6.out Tryz.underlying24 rfl iCl ?_; rw [Array.toArray_toList])
            refine (HAl.out _).mono ?_; rintro e w7 ⟨⟨a2, n2, c2, rfl, h2⟩, hb⟩
            have HW7 := hid (HW6.out.trans (hb.mono HW6.out.size))
            have HB7 := hid (HB6.out.trans (hb.mono HB6.out.size))
            clear hb
            have hz3 : (n2 : Int) ≤ 16384 := by omega
            by_cases h600 : 600 < n2
            · have hz4 : (600 : Int) < (n2 : Int) := by omega
              go_wp2_with fail
              go_ret
              exact ⟨false, rfl, (fun h => by cases h), HW7.out⟩
            · have hz4 : ¬ (600 : Int) < (n2 : Int) := by omega
              have HQ2 : Hid (∀ j (h : j < L.length), j < k + 1 → L[j].s.length ≤ 2000) := fun j h hj => by
                by_cases e : j = k
                · subst e
                  rw [HOp.out h, ← HSz.out]; omega
                · exact HQ.out j h (by omega)
              go_wp2_with fail
              go_roundw
              case rel => exact ⟨k + 1, by omega, by go_num, HW7.out, HB7.out, HQ2.out⟩
              case measure => simp [intOf]; omega
        · obtain rfl : k = n := by omega
          have HFin : Hid (L.length ≤ 40 ∧ ∀ o ∈ L, o.s.length ≤ 2000) := ⟨by have := HN.out; have := H40.out; omega, fun o ho => by
            obtain ⟨j, hj, rfl⟩ := List.getElem_of_mem ho
            exact HQ.out j hj (by have := HN.out; omega)⟩
          go_wp2_with fail
          go_ret
          exact ⟨true, rfl, (fun _ => HFin.out), HW.out⟩

end Go.Proofs.YtbfllifgmlkndaaGreatDoor
