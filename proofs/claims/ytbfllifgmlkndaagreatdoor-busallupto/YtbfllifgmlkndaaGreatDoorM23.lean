/- VwRef6, VwRef7, VwRef8, VwRef9. -/
import Derived.Deep.RegionHeld3
import Derived.Test.YtbfllifgmlkndaaGreatDoorM20
import Derived.Laws.MakeOwn
namespace Go.Proofs.YtbfllifgmlkndaaGreatDoor
open Go.RowKit
open Slot

theorem ret_rv2 {fn : Func} {p q : Tmp} (h : fn.results = #[.cell p 34, .tmp q]) {tmps : Array Value} {w : World} {b self g cap cur : Nat} {v : Value} (hp : tmps.getD p undef = .pointer (some ⟨b, 0, none⟩)) (hq : tmps.getD q undef = v) (hB : RVb w b self g cap cur) :
    (results fn tmps).run Tryz.prog w = .ok (.tuple #[.agg (rvc self g cap cur), v]) w := by
  have hp' : tmps[p]?.getD undef = .pointer (some ⟨b, 0, none⟩) := by simpa using hp
  have hq' : tmps[q]?.getD undef = v := by simpa using hq
  simp [results, h, hp', hq', asAddr, run_loadVar_row w b 34 34 (rvc self g cap cur) (0, 0) _ hB Tryz.underlying34 rfl (infoRV rfl)]
/-- the beginning of a call on a document's view: the view in a block, and the answer's -/
structure Beg (w W : World) (me g cap cur : Nat) : Prop where
  rv : RVb W w.heap.size me g cap cur
  res : W.heap[w.heap.size + 1]? = some (.cells #[.int .i64 0, .slice none 0 0, .int .u64 0] 34 (0, 0))
  bel : Below w.heap.size w W
  size : W.heap.size = w.heap.size + 2
theorem beg_new (w : World) (me g cap cur : Nat) : Beg w ((w.alloc (.cells (rvc me g cap cur) 34)).alloc (.cells #[.int .i64 0, .slice none 0 0, .int .u64 0] 34)) me g cap cur :=
  ⟨heap_alloc2_old w _ _, heap_alloc2_new w _ _, (below_alloc w _).alloc (by simp) _, by simp⟩
set_option maxHeartbeats 4000000 in
set_option maxRecDepth 100000 in
theorem give_yes (self g cap cur s n : Nat) (E : Nat → Nat) (K : Nat → Nat → Bool) (w : World) (hs : s < 16384) (hn : n < 64) (hN : Nd w g E K) : Calls Tryz.prog 33 #[.agg (rvc self g cap cur), .int .i64 (s : Int), .int .i64 (n : Int)] w fun e w' => ∃ g' cap', e = .returned (.tuple #[.agg (rvc self g' cap' cur), .int .i64 0]) ∧ Nd w' g' E (ownK K s n) ∧ w.heap.size ≤ g' ∧ Below w.heap.size w w' := by
  have HB0 := hid (beg_new w self g cap cur)
  have HN0 := hid (hN.below HB0.out.bel hN.lt)
  have HCo := hid (fun W h => rcopied_any self g cap cur E K W h)
  have HOw := hid (fun g' cap' W h => rowned_any self g' cap' cur s n E K W hs hn h)
  have h1 : ¬ (s : Int) < 0 := by omega
  have h2 : ¬ (16383 : Int) < (s : Int) := by omega
  have h3 : ¬ (n : Int) < 0 := by omega
  have h4 : ¬ (63 : Int) < (n : Int) := by omega
  clear hN
  generalize hRC : rvc self g cap cur = RC at *
  go_enter Tryz.func33, Tryz.ntmps33
  go_upto_region 1 with fail
  generalize (w.alloc (.cells RC 34)).alloc (.cells #[.int .i64 0, .slice none 0 0, .int .u64 0] 34) = w2 at *
  go_wp2_with (refine wpList_load_row rfl 34 _ rfl w.heap.size rfl 34 _ (0, 0) _ HB0.out.rv Tryz.underlying34 rfl (infoRV rfl) (Hid.out ?_))
  refine hid ?_
  go_wp2_with fail
  refine (HCo.out _ HN0.out).mono ?_; rintro e w3 ⟨g', cap', rfl, hNd, hge, hb⟩
  have HR3 : Hid (w3.heap[w.heap.size + 1]? = some (.cells #[.int .i64 0, .slice none 0 0, .int .u64 0] 34 (0, 0))) := (hb.block _ (by have := HB0.out.size; omega)).trans HB0.out.res
  have HW3 := hid (HB0.out.bel.trans (hb.mono HB0.out.bel.size))
  have HOw3 := hid (HOw.out g' cap' w3 hNd)
  have HGE : Hid (w.heap.size + 2 ≤ g') := by have := HB0.out.size; show _ ≤ _; omega
  clear hb hNd hge
  have hG2 : w.heap.size + 1 ≠ g' := by have := HGE.out; omega
  generalize hRC2 : rvc self g' cap' cur = RC2 at *
  go_wp2_with fail
  refine HOw3.out.mono ?_; rintro e w4 ⟨rfl, hNd, hon⟩
  have HR4 : Hid (w4.heap[w.heap.size + 1]? = some (.cells #[.int .i64 0, .slice none 0 0, .int .u64 0] 34 (0, 0))) := (hon.block _ (Array.getElem?_eq_some_iff.1 HR3.out).1 hG2).trans HR3.out
  have HW4 := hid (HW3.out.trans (hon.below (n := w.heap.size) (by have := HGE.out; omega) HW3.out.size))
  have HN4 := hid hNd
  have i2 : (Tryz.prog.info? 34).map (·.size) = some RC2.size := by rw [← hRC2]; exact infoRV rfl
  have o2 : RC2.all (·.oneCell') = true := by rw [← hRC2]; exact rvc_one _ _ _ _
  have z2 : (#[.int .i64 0, .slice none 0 0, .int .u64 0] : Array Value).size = RC2.size := by rw [← hRC2]; rfl
  have HV5 : Hid (RVb (w4.setRow (w.heap.size + 1) RC2) (w.heap.size + 1) self g' cap' cur) := by show _ = _; rw [hRC2]; exact setRow_heap _ _ _ _ _ _ HR4.out
  clear hon hNd
  go_wp2_with (refine wpList_store_row rfl 34 _ _ rfl (w.heap.size + 1) RC2 rfl rfl 34 _ HR4.out i2 z2 o2 (Hid.out ?_))
  refine hid ?_
  go_wp2_with fail
  refine bodyPost_ret (v := .tuple #[.agg (rvc self g' cap' cur), .int .i64 0]) ?_ rfl ?_
  · exact ret_rv2 rfl rfl rfl HV5.out
  · exact ⟨g', cap', rfl, HN4.out.turn (setRow_other _ _ _ _ (fun e => hG2 e.symm)), by have := HGE.out; omega, below_setRow HW4.out (by omega) _⟩
set_option maxHeartbeats 4000000 in
set_option maxRecDepth 100000 in
theorem give_no (self g cap cur : Nat) (s n c : Int) (w : World) (h : giveE s n = c) (hc : c ≠ 0) : Calls Tryz.prog 33 #[.agg (rvc self g cap cur), .int .i64 s, .int .i64 n] w fun e w' => e = .returned (.tuple #[.agg (rvc self g cap cur), .int .i64 c]) ∧ Below w.heap.size w w' := by
  have HB0 := hid (beg_new w self g cap cur)
  have HV : Hid (RVb (((w.alloc (.cells (rvc self g cap cur) 34)).alloc (.cells #[.int .i64 0, .slice none 0 0, .int .u64 0] 34)).setRow (w.heap.size + 1) (rvc self g cap cur)) (w.heap.size + 1) self g cap cur) := setRow_heap _ _ _ _ _ _ HB0.out.res
  have HH : Hid (giveE s n = c ∧ c ≠ 0) := ⟨h, hc⟩
  have HI : Hid ((Tryz.prog.info? 34).map (·.size) = some (rvc self g cap cur).size) := infoRV rfl
  have HO := hid (rvc_one self g cap cur)
  clear h hc
  by_cases h0 : s < 0
  · obtain rfl : c = 1 := by
      rw [← HH.out.1]; unfold giveE slotB; rw [decide_eq_false (by omega)]; rfl
    go_enter Tryz.func33, Tryz.ntmps33
    go_wp2_with (first | (refine wpList_load_row rfl 34 _ rfl w.heap.size rfl 34 _ (0, 0) _ HB0.out.rv Tryz.underlying34 rfl HI.out ?_) | (refine wpList_store_row rfl 34 _ _ rfl (w.heap.size + 1) (rvc self g cap cur) rfl rfl 34 _ HB0.out.res HI.out rfl HO.out ?_))
    refine bodyPost_ret (v := .tuple #[.agg (rvc self g cap cur), .int .i64 1]) ?_ rfl ?_
    · exact ret_rv2 rfl rfl rfl HV.out
    · exact ⟨rfl, below_setRow HB0.out.bel (by omega) _⟩
  · by_cases h1 : 16383 < s
    · obtain rfl : c = 1 := by
        rw [← HH.out.1]; unfold giveE slotB; rw [decide_eq_false (by omega)]; rfl
      go_enter Tryz.func33, Tryz.ntmps33
      go_wp2_with (first | (refine wpList_load_row rfl 34 _ rfl w.heap.size rfl 34 _ (0, 0) _ HB0.out.rv Tryz.underlying34 rfl HI.out ?_) | (refine wpList_store_row rfl 34 _ _ rfl (w.heap.size + 1) (rvc self g cap cur) rfl rfl 34 _ HB0.out.res HI.out rfl HO.out ?_))
      refine bodyPost_ret (v := .tuple #[.agg (rvc self g cap cur), .int .i64 1]) ?_ rfl ?_
      · exact ret_rv2 rfl rfl rfl HV.out
      · exact ⟨rfl, below_setRow HB0.out.bel (by omega) _⟩
    · have hb : slotB s = true := decide_eq_true (by omega)
      have hn : ¬ (0 ≤ n ∧ n < 64) := fun hn => HH.out.2 (by rw [← HH.out.1]; unfold giveE; rw [if_pos hb, if_pos hn])
      obtain rfl : c = 150 := by
        rw [← HH.out.1]; unfold giveE; rw [if_pos hb, if_neg hn]
      by_cases h2 : n < 0
      · clear hn
        go_enter Tryz.func33, Tryz.ntmps33
        go_wp2_with (first | (refine wpList_load_row rfl 34 _ rfl w.heap.size rfl 34 _ (0, 0) _ HB0.out.rv Tryz.underlying34 rfl HI.out ?_) | (refine wpList_store_row rfl 34 _ _ rfl (w.heap.size + 1) (rvc self g cap cur) rfl rfl 34 _ HB0.out.res HI.out rfl HO.out ?_))
        refine bodyPost_ret (v := .tuple #[.agg (rvc self g cap cur), .int .i64 150]) ?_ rfl ?_
        · exact ret_rv2 rfl rfl rfl HV.out
        · exact ⟨rfl, below_setRow HB0.out.bel (by omega) _⟩
      · have h3 : 63 < n := by omega
        clear hn
        go_enter Tryz.func33, Tryz.ntmps33
        go_wp2_with (first | (refine wpList_load_row rfl 34 _ rfl w.heap.size rfl 34 _ (0, 0) _ HB0.out.rv Tryz.underlying34 rfl HI.out ?_) | (refine wpList_store_row rfl 34 _ _ rfl (w.heap.size + 1) (rvc self g cap cur) rfl rfl 34 _ HB0.out.res HI.out rfl HO.out ?_))
        refine bodyPost_ret (v := .tuple #[.agg (rvc self g cap cur), .int .i64 150]) ?_ rfl ?_
        · exact ret_rv2 rfl rfl rfl HV.out
        · exact ⟨rfl, below_setRow HB0.out.bel (by omega) _⟩

end Go.Proofs.YtbfllifgmlkndaaGreatDoor

namespace Go.Proofs.YtbfllifgmlkndaaGreatDoor
open Go.RowKit
open Slot

set_option maxHeartbeats 4000000 in
set_option maxRecDepth 100000 in
theorem win_yes (self g cap cur s least : Nat) (E : Nat → Nat) (K0 : Nat → Nat → Bool) (w : World) (hs : s < 16384) (hself : self < 64) (hl : least ≤ 4611686018427387904) (hcur : cur < 9223372036854775808) (hN : Nd w g E K0) : Calls Tryz.prog 31 #[.agg (rvc self g cap cur), .int .i64 (s : Int), .int .u64 (least : Int)] w fun e w' => ∃ g' cap', e = .returned (.tuple #[.agg (rvc self g' cap' (max cur least + 1)), .int .i64 0]) ∧ Nd w' g' (fun m => if m = self then max cur least + 1 else E m) (ownK K0 s self) ∧ w.heap.size ≤ g' ∧ Below w.heap.size w w' := by
  have HB0 := hid (beg_new w self g cap cur)
  have HNd0 : Hid (Nd ((w.alloc (.cells (rvc self g cap cur) 34)).alloc (.cells #[.int .i64 0, .slice none 0 0, .int .u64 0] 34)).drew g E K0) := (hN.below HB0.out.bel hN.lt).turn rfl
  have HCo := hid (fun W h => rcopied_any self g cap cur E K0 W h)
  have HOw := hid (fun g' cap' W h => rowned_any self g' cap' cur s self E K0 W hs hself h)
  have HRa := hid (fun g' cap' W h => rraise_any self g' cap' (max cur least) E (ownK K0 s self) W hself (by omega) h)
  have h1 : ¬ (s : Int) < 0 := by omega
  have h2 : ¬ (16383 : Int) < (s : Int) := by omega
  have h3 : ¬ (4611686018427387904 : Int) < (least : Int) := by omega
  have HV0 : Hid (((w.alloc (.cells (rvc self g cap cur) 34)).alloc (.cells #[.int .i64 0, .slice none 0 0, .int .u64 0] 34)).heap[w.heap.size]? = some (.cells (rvc self g cap cur) 34 (0, 0))) := HB0.out.rv
  have HR0 := hid HB0.out.res
  have HW0 := hid HB0.out.bel
  have HSZ := hid HB0.out.size
  have c0 := (rv_cells HB0.out.rv).1
  have HC0 : Hid (∀ W : World, W.heap[w.heap.size]? = some (.cells (rvc self g cap cur) 34 (0, 0)) → W.cell? ⟨w.heap.size, 0, none⟩ = some (.int .i64 (self : Int))) := fun W h => (rv_cells h).1
  have IRC : Hid ((Tryz.prog.info? 34).map (·.size) = some (rvc self g cap cur).size) := infoRV rfl
  have HSz : Hid (∀ a b, (rvc self g cap cur).size = (rvc self a b cur).size) := fun a b => rfl
  clear hN HB0
  generalize hRC : rvc self g cap cur = RC at *
  go_enter Tryz.func31, Tryz.ntmps31
  go_upto_region 1 with fail
  generalize (w.alloc (.cells RC 34)).alloc (.cells #[.int .i64 0, .slice none 0 0, .int .u64 0] 34) = w2 at *
  clear hRC
  go_wp2_with fail
  refine wp_region_noPanic ?_
  refine wp_region_held_drew (S := fun w' => w'.cell? ⟨w.heap.size, 0, none⟩ = some (.int .i64 (self : Int))) (by kernel_rfl) c0 (fun hHeld => ?_)
  refine wpAnyH_take (i := 2) (oi := { dst := some 21, op := Op.move (Operand.tmp 1), type := 3, pos := "ref.go:149", after := #[], guard := none }) (v := .int .i64 (s : Int)) rfl (by kernel_rfl) (by kernel_rfl) (by kernel_rfl) (fun _ _ _ h => h) (Or.inl ⟨by rfl, fun w hSw => ?_⟩) (by assumption) ?_
  · clear hHeld
    go_simp
  try simp only [Act.put, List.setIfInBounds_toArray, List.set_cons_zero, List.set_cons_succ]
  refine wpAnyH_take (i := 3) (oi := { dst := some 22, op := Op.fieldAddr 34 (Operand.tmp 3) 0, type := 0, pos := "ref.go:149", after := #[], guard := none }) (v := .pointer (some ⟨w.heap.size, 0, none⟩)) rfl (by kernel_rfl) (by kernel_rfl) (by kernel_rfl) (fun _ _ _ h => h) (Or.inl ⟨by rfl, fun w hSw => ?_⟩) (by assumption) ?_
  · clear hHeld
    go_simp
  try simp only [Act.put, List.setIfInBounds_toArray, List.set_cons_zero, List.set_cons_succ]
  refine wpAnyH_take (i := 4) (oi := { dst := some 23, op := Op.load 3 (Operand.tmp 22), type := 3, pos := "ref.go:149", after := #[{ on := 3, ground := Ground.data }], guard := none }) (v := .int .i64 (self : Int)) rfl (by kernel_rfl) (by kernel_rfl) (by kernel_rfl) (fun _ _ _ h => h) (Or.inl ⟨by rfl, fun w hSw => ?_⟩) (by assumption) ?_
  · clear hHeld
    go_simp
  try simp only [Act.put, List.setIfInBounds_toArray, List.set_cons_zero, List.set_cons_succ]
  refine wpAnyH_ready (rs := [0]) (by kernel_rfl) (by simp) ?_
  refine AllReadyH.cons (o := { dst := some 19, op := Op.load 34 (Operand.tmp 3), type := 34, pos := "ref.go:149", after := #[], guard := none }) rfl (fun K hK => ?_) AllReadyH.nil
  rw [if_pos (by rfl)]
  refine wp_load_row 34 _ rfl w.heap.size rfl 34 RC (0, 0) _ HV0.out Tryz.underlying34 rfl IRC.out ?_
  refine hK.out _ _ hHeld (fun hHeld => ?_)
  clear hK K
  try simp only [Act.put, List.setIfInBounds_toArray, List.set_cons_zero, List.set_cons_succ]
  refine wpAnyH_ready (rs := [1]) (by kernel_rfl) (by simp) ?_
  refine AllReadyH.cons (o := { dst := some 20, op := Op.call { callee := Callee.value (Operand.func 57), args := #[Operand.tmp 19], argTypes := #[34] }, type := 34, pos := "ref.go:149", after := #[{ on := 0, ground := Ground.data }], guard := none }) rfl (fun K hK => ?_) AllReadyH.nil
  clear hHeld
  go_simp
  refine (HCo.out _ HNd0.out).mono ?_; rintro e w3 ⟨g', cap', rfl, hNd, hge, hb⟩
  have HV3 : Hid (w3.heap[w.heap.size]? = some (.cells RC 34 (0, 0))) := (hb.block _ (by have := HSZ.out; show w.heap.size < w2.heap.size; omega)).trans HV0.out
  have HR3 : Hid (w3.heap[w.heap.size + 1]? = some (.cells #[.int .i64 0, .slice none 0 0, .int .u64 0] 34 (0, 0))) := (hb.block _ (by have := HSZ.out; show w.heap.size + 1 < w2.heap.size; omega)).trans HR0.out
  have HW3 := hid (HW0.out.drew.trans (hb.mono HW0.out.size))
  have HN3 := hid hNd
  have HGE : Hid (w2.heap.size ≤ g') := hge
  clear hb hNd hge
  have d0 : w3.cell? ⟨w.heap.size, 0, none⟩ = some (.int .i64 (self : Int)) := HC0.out _ HV3.out
  go_wp2_with fail
  refine hK.out _ _ d0 (fun hHeld => ?_)
  clear hK K
  try simp only [Act.put, List.setIfInBounds_toArray, List.set_cons_zero, List.set_cons_succ]
  refine wpAnyH_ready (rs := [5]) (by kernel_rfl) (by simp) ?_
  refine AllReadyH.cons (o := { dst := some 24, op := Op.call { callee := Callee.value (Operand.func 56), args := #[Operand.tmp 20, Operand.tmp 21, Operand.tmp 23], argTypes := #[34, 3, 3] }, type := 34, pos := "ref.go:149", after := #[{ on := 1, ground := Ground.data }, { on := 2, ground := Ground.data }, { on := 4, ground := Ground.data }, { on := 1, ground := Ground.chain }], guard := none }) rfl (fun K hK => ?_) AllReadyH.nil
  clear hHeld
  have HOw3 := hid (HOw.out g' cap' w3 HN3.out)
  have hG1 : w.heap.size ≠ g' := by have := HGE.out; have := HSZ.out; omega
  have hG2 : w.heap.size + 1 ≠ g' := by have := HGE.out; have := HSZ.out; omega
  generalize hRC2 : rvc self g' cap' cur = RC2 at *
  go_simp
  refine HOw3.out.mono ?_; rintro e w4 ⟨rfl, hNd, hon⟩
  have HV4 : Hid (w4.heap[w.heap.size]? = some (.cells RC 34 (0, 0))) := (hon.block _ (Array.getElem?_eq_some_iff.1 HV3.out).1 hG1).trans HV3.out
  have HR4 : Hid (w4.heap[w.heap.size + 1]? = some (.cells #[.int .i64 0, .slice none 0 0, .int .u64 0] 34 (0, 0))) := (hon.block _ (Array.getElem?_eq_some_iff.1 HR3.out).1 hG2).trans HR3.out
  have HW4 := hid (HW3.out.trans (hon.below (n := w.heap.size) (by have := HGE.out; have := HSZ.out; omega) HW3.out.size))
  have HN4 := hid hNd
  clear hon hNd d0
  have d0 : w4.cell? ⟨w.heap.size, 0, none⟩ = some (.int .i64 (self : Int)) := HC0.out _ HV4.out
  go_wp2_with fail
  refine hK.out _ _ d0 (fun hHeld => ?_)
  clear hK K
  try simp only [Act.put, List.setIfInBounds_toArray, List.set_cons_zero, List.set_cons_succ]
  refine wpAnyH_ready (rs := [6]) (by kernel_rfl) (by simp) ?_
  refine AllReadyH.cons (o := { dst := none, op := Op.store 34 (Operand.tmp 3) (Operand.tmp 24), type := 0, pos := "ref.go:149", after := #[{ on := 5, ground := Ground.data }, { on := 5, ground := Ground.chain }, { on := 0, ground := Ground.phase }, { on := 1, ground := Ground.phase }, { on := 2, ground := Ground.phase }, { on := 3, ground := Ground.phase }, { on := 4, ground := Ground.phase }, { on := 5, ground := Ground.phase }], guard := none }) rfl (fun K hK => ?_) AllReadyH.nil
  rw [if_pos (by rfl)]
  have HV5 : Hid (RVb (w4.setRow w.heap.size RC2) w.heap.size self g' cap' cur) := by show _ = _; rw [hRC2]; exact setRow_heap _ _ _ _ _ _ HV4.out
  have i2 : (Tryz.prog.info? 34).map (·.size) = some RC2.size := by rw [← hRC2]; exact infoRV rfl
  refine wp_store_row 34 _ _ rfl w.heap.size RC2 rfl rfl 34 RC HV4.out i2 (by rw [← hRC2]; exact HSz.out _ _) (by rw [← hRC2]; exact rvc_one _ _ _ _) ?_
  refine hK.out _ _ (rv_cells HV5.out).1 (fun hHeld => ?_)
  clear hK K hHeld d0
  simp only [Act.put]
  refine wpAnyH_done (by kernel_rfl) ?_ _
  refine NoPanic.normal ?_
  have HR5 : Hid ((w4.setRow w.heap.size RC2).heap[w.heap.size + 1]? = some (.cells #[.int .i64 0, .slice none 0 0, .int .u64 0] 34 (0, 0))) := (setRow_other _ _ _ _ (by omega)).trans HR4.out
  have HW5 := hid (below_setRow HW4.out (Nat.le_refl w.heap.size) RC2)
  have HN5 : Hid (Nd (w4.setRow w.heap.size RC2) g' E (ownK K0 s self)) := HN4.out.turn (setRow_other _ _ _ _ (fun e => hG1 e.symm))
  generalize w4.setRow w.heap.size RC2 = w5 at HV5 HR5 HW5 HN5 ⊢
  clear HV4 HR4 HW4 HN4 HV3 HR3 HW3 HN3 HOw3 c0 HV0 HR0 HW0
  obtain ⟨c0, c1, c2⟩ := rv_cells HV5.out
  have f2 := HV5.out.frozen 2
  have HV6 := hid (HV5.out.setCur (max cur least))
  have HR6 : Hid ((w5.setCell ⟨w.heap.size, 2, none⟩ (.int .u64 ((max cur least : Nat) : Int))).heap[w.heap.size + 1]? = some (.cells #[.int .i64 0, .slice none 0 0, .int .u64 0] 34 (0, 0))) := (Below.heap_setCell _ _ _ _ (by show w.heap.size + 1 ≠ w.heap.size; omega)).trans HR5.out
  have HW6 := hid (HW5.out.setCell (p := ⟨w.heap.size, 2, none⟩) (Nat.le_refl _) (.int .u64 ((max cur least : Nat) : Int)))
  have HN6 : Hid (Nd (w5.setCell ⟨w.heap.size, 2, none⟩ (.int .u64 ((max cur least : Nat) : Int))) g' E (ownK K0 s self)) := HN5.out.turn (Below.heap_setCell _ _ _ _ (fun e => hG1 e.symm))
  have HRa6 := hid (HRa.out g' cap' _ HN6.out)
  have hmx : (if cur < least then (least : Int) else (cur : Int)) = ((max cur least : Nat) : Int) := by split <;> omega
  have hmxx : max (cur : Int) (least : Int) = ((max cur least : Nat) : Int) := by omega
  generalize hM : max cur least = M at *
  have HM := hid hM
  clear hM
  go_upto_region 5 with fail
  generalize w5.setCell ⟨w.heap.size, 2, none⟩ (.int .u64 (M : Int)) = w6 at HV6 HR6 HW6 HN6 HRa6 ⊢
  clear c0 c1 c2 f2 HV5 HR5 HW5 HN5 hmx hmxx
  generalize hRC3 : rvc self g' cap' M = RC3 at *
  have i3 : (Tryz.prog.info? 34).map (·.size) = some RC3.size := by rw [← hRC3]; exact infoRV rfl
  have HV6' : Hid (w6.heap[w.heap.size]? = some (.cells RC3 34 (0, 0))) := by rw [← hRC3]; exact HV6.out
  go_wp2_with (refine wpList_load_row rfl 34 _ rfl w.heap.size rfl 34 _ (0, 0) _ HV6'.out Tryz.underlying34 rfl i3 (Hid.out ?_))
  refine hid ?_
  go_wp2_with fail
  refine HRa6.out.mono ?_; rintro e w7 ⟨rfl, hNd, hon⟩
  have HR7 : Hid (w7.heap[w.heap.size + 1]? = some (.cells #[.int .i64 0, .slice none 0 0, .int .u64 0] 34 (0, 0))) := (hon.block _ (Array.getElem?_eq_some_iff.1 HR6.out).1 hG2).trans HR6.out
  have HW7 := hid (HW6.out.trans (hon.below (n := w.heap.size) (by have := HGE.out; have := HSZ.out; omega) HW6.out.size))
  have HN7 := hid hNd
  clear hon hNd
  have HV8 : Hid (RVb (w7.setRow (w.heap.size + 1) (rvc self g' cap' (M + 1))) (w.heap.size + 1) self g' cap' (M + 1)) := setRow_heap _ _ _ _ _ _ HR7.out
  generalize hRC4 : rvc self g' cap' (M + 1) = RC4 at *
  have i4 : (Tryz.prog.info? 34).map (·.size) = some RC4.size := by rw [← hRC4]; exact infoRV rfl
  have o4 : RC4.all (·.oneCell') = true := by rw [← hRC4]; exact rvc_one _ _ _ _
  have z4 : (#[.int .i64 0, .slice none 0 0, .int .u64 0] : Array Value).size = RC4.size := by rw [← hRC4]; rfl
  go_wp2_with (refine wpList_store_row rfl 34 _ _ rfl (w.heap.size + 1) RC4 rfl rfl 34 _ HR7.out i4 z4 o4 (Hid.out ?_))
  refine hid ?_
  go_wp2_with fail
  refine bodyPost_ret (v := .tuple #[.agg (rvc self g' cap' (M + 1)), .int .i64 0]) ?_ rfl ?_
  · exact ret_rv2 rfl rfl rfl HV8.out
  · have hfin := HN7.out.turn (setRow_other w7 (w.heap.size + 1) g' RC4 (fun e => hG2 e.symm))
    refine ⟨g', cap', ?_, ?_, by have := HGE.out; have := HSZ.out; omega, below_setRow HW7.out (by omega) _⟩
    · rw [HM.out]
    · rw [HM.out]; exact hfin

end Go.Proofs.YtbfllifgmlkndaaGreatDoor

namespace Go.Proofs.YtbfllifgmlkndaaGreatDoor
open Go.RowKit
open Slot

set_option maxHeartbeats 4000000 in
set_option maxRecDepth 100000 in
theorem win_no (self g cap cur least : Nat) (s : Int) (w : World) (h : winE s least ≠ 0) : Calls Tryz.prog 31 #[.agg (rvc self g cap cur), .int .i64 s, .int .u64 (least : Int)] w fun e w' => e = .returned (.tuple #[.agg (rvc self g cap cur), .int .i64 (winE s least)]) ∧ Below w.heap.size w w' := by
  have HB0 := hid (beg_new w self g cap cur)
  have HV : Hid (RVb (((w.alloc (.cells (rvc self g cap cur) 34)).alloc (.cells #[.int .i64 0, .slice none 0 0, .int .u64 0] 34)).setRow (w.heap.size + 1) (rvc self g cap cur)) (w.heap.size + 1) self g cap cur) := setRow_heap _ _ _ _ _ _ HB0.out.res
  have HI : Hid ((Tryz.prog.info? 34).map (·.size) = some (rvc self g cap cur).size) := infoRV rfl
  have HO := hid (rvc_one self g cap cur)
  have h1 : ¬ (slotB s = true ∧ least ≤ big) := fun c => h (by unfold winE; rw [if_pos c])
  have e : winE s least = 1 := by unfold winE; rw [if_neg h1]
  rw [e]
  clear h e
  by_cases h0 : s < 0
  · clear h1
    go_enter Tryz.func31, Tryz.ntmps31
    go_wp2_with (first | (refine wpList_load_row rfl 34 _ rfl w.heap.size rfl 34 _ (0, 0) _ HB0.out.rv Tryz.underlying34 rfl HI.out ?_) | (refine wpList_store_row rfl 34 _ _ rfl (w.heap.size + 1) (rvc self g cap cur) rfl rfl 34 _ HB0.out.res HI.out rfl HO.out ?_))
    refine bodyPost_ret (v := .tuple #[.agg (rvc self g cap cur), .int .i64 1]) ?_ rfl ?_
    · exact ret_rv2 rfl rfl rfl HV.out
    · exact ⟨rfl, below_setRow HB0.out.bel (by omega) _⟩
  · by_cases h2 : 16383 < s
    · clear h1
      go_enter Tryz.func31, Tryz.ntmps31
      go_wp2_with (first | (refine wpList_load_row rfl 34 _ rfl w.heap.size rfl 34 _ (0, 0) _ HB0.out.rv Tryz.underlying34 rfl HI.out ?_) | (refine wpList_store_row rfl 34 _ _ rfl (w.heap.size + 1) (rvc self g cap cur) rfl rfl 34 _ HB0.out.res HI.out rfl HO.out ?_))
      refine bodyPost_ret (v := .tuple #[.agg (rvc self g cap cur), .int .i64 1]) ?_ rfl ?_
      · exact ret_rv2 rfl rfl rfl HV.out
      · exact ⟨rfl, below_setRow HB0.out.bel (by omega) _⟩
    · have h3 : (4611686018427387904 : Int) < (least : Int) := by
        have hb : slotB s = true := decide_eq_true (by omega)
        have : ¬ least ≤ big := fun c => h1 ⟨hb, c⟩
        unfold big at this
        omega
      clear h1
      go_enter Tryz.func31, Tryz.ntmps31
      go_wp2_with (first | (refine wpList_load_row rfl 34 _ rfl w.heap.size rfl 34 _ (0, 0) _ HB0.out.rv Tryz.underlying34 rfl HI.out ?_) | (refine wpList_store_row rfl 34 _ _ rfl (w.heap.size + 1) (rvc self g cap cur) rfl rfl 34 _ HB0.out.res HI.out rfl HO.out ?_))
      refine bodyPost_ret (v := .tuple #[.agg (rvc self g cap cur), .int .i64 1]) ?_ rfl ?_
      · exact ret_rv2 rfl rfl rfl HV.out
      · exact ⟨rfl, below_setRow HB0.out.bel (by omega) _⟩

end Go.Proofs.YtbfllifgmlkndaaGreatDoor

namespace Go.Proofs.YtbfllifgmlkndaaGreatDoor
open Go.RowKit
open Slot

theorem setCells_other {b k : Nat} (hk : k ≠ b) : ∀ (vs : List Value) (o : Nat) (w : World), (w.setCells b o vs).heap[k]? = w.heap[k]?
  | [], _, _ => rfl
  | v :: r, o, w => by
    rw [World.setCells, setCells_other hk r (o + 1) _]
    exact Below.heap_setCell _ _ _ _ hk
theorem setCells_heap {b : Nat} {t : TypeId} : ∀ (vs : List Value) (o : Nat) (w : World) (C : Array Value), w.heap[b]? = some (.cells C t (0, 0)) → ∃ C', (w.setCells b o vs).heap[b]? = some (.cells C' t (0, 0))
  | [], _, _, C, h => ⟨C, h⟩
  | v :: r, o, w, C, h => by
    rw [World.setCells]
    exact setCells_heap r (o + 1) _ _ (heap_setCell_same w b o C t v h)
theorem setCells_below {B b : Nat} {a : World} (hb : B ≤ b) : ∀ (vs : List Value) (o : Nat) (w : World), Below B a w → Below B a (w.setCells b o vs)
  | [], _, _, h => h
  | v :: r, o, w, h => by
    rw [World.setCells]
    exact setCells_below hb r (o + 1) _ (h.setCell (p := ⟨b, o, none⟩) hb v)
theorem Nd.there {w : World} {g : Nat} {E : Nat → Nat} {K : Nat → Nat → Bool} (h : Nd w g E K) {n : Nat} (hn : n < 64) : w.there g (n * 257) 257 := fun j hj => by
  refine ⟨?_, h.frozen _⟩
  have := h.range hn j
  obtain ⟨v, hv⟩ : ∃ v, (ndCells (E n) (K n)).toList[j]? = some v := by
    have hl : j < (ndCells (E n) (K n)).toList.length := by rw [Array.length_toList, ndCells_size]; exact hj
    exact ⟨_, List.getElem?_eq_getElem hl⟩
  rw [this v hv]
  rfl
theorem nd_store {w : World} {g : Nat} {E : Nat → Nat} {K : Nat → Nat → Bool} (h : Nd w g E K) {n : Nat} (hn : n < 64) (e : Nat) (S : Nat → Bool) : Nd (w.setCells g (n * 257) (ndCells e S).toList) g (fun m => if m = n then e else E m) (fun m => if m = n then S else K m) := by
  have hl : (ndCells e S).toList.length = 257 := by rw [Array.length_toList, ndCells_size]
  have hth := h.there hn
  have hsame := World.rangeAt_setCells_same w g (n * 257) (ndCells e S).toList (by rw [hl]; exact hth)
  have hh := h
  obtain ⟨C, h1, _⟩ := h
  obtain ⟨C', h3⟩ := setCells_heap (ndCells e S).toList (n * 257) w C h1
  have out : ∀ j, (j < n * 257 ∨ n * 257 + 257 ≤ j) → C'[j]? = w.cell? ⟨g, j, none⟩ := fun j hj => by
    rw [← cell_of_row _ g j C' _ _ h3]
    exact World.cell?_setCells_out g _ _ w ⟨g, j, none⟩ (fun _ _ => by rw [hl]; exact hj)
  have inn : ∀ j v, (ndCells e S)[j]? = some v → C'[n * 257 + j]? = some v := fun j v hv => by
    rw [← cell_of_row _ g _ C' _ _ h3]
    exact hsame j v (by rw [Array.getElem?_toList]; exact hv)
  refine ⟨C', h3, fun m hm => ?_⟩
  by_cases em : m = n
  · subst em
    simp only [if_true]
    refine ⟨by have := inn 0 _ (ndCells_zero e S); rwa [Nat.add_zero] at this, fun i hi => ?_⟩
    have := inn (1 + i) _ (ndCells_get e S i hi)
    rwa [← Nat.add_assoc] at this
  · simp only [if_neg em]
    refine ⟨by rw [out _ (by omega)]; exact hh.ep hm, fun i hi => by rw [out _ (by omega)]; exact hh.wd hm hi⟩
theorem zeroV : ((Tryz.prog.info? 79).bind (fun i => i.zero)).map (fun z => z.cells) = some Tryz.zeroCells79 := by kernel_rfl
def madeN : Array Value := madeCells (ndCells 0 fun _ => false) 16448
theorem make_nodes (u : World) : (Instr.makeSlice 32 (.int .i64 64) (.int .i64 64)).run Tryz.prog u = .ok (.slice (some ⟨u.heap.size, 0, none⟩) 64 64) (u.alloc (.cells madeN 79)) := by
  have hi := infoNd
  cases hi0 : Tryz.prog.info? 79 with
  | none => rw [hi0] at hi; cases hi
  | some i0 =>
    rw [hi0] at hi
    simp only [Option.map_some, Option.some.injEq, Prod.mk.injEq] at hi
    obtain ⟨hz0, hz1, hz2⟩ := hi
    obtain ⟨z, hz⟩ := Option.isSome_iff_exists.1 hz0
    have hzc := zeroV
    rw [hi0, Option.bind_some, hz, zeroNd] at hzc
    have hzc2 : z.cells = ndCells 0 fun _ => false := by simpa using hzc
    have h := run_make (P := Tryz.prog) u 32 79 i0 z Tryz.underlying32 hi0 hz .i64 .i64 64 64 (by omega) (by omega) (by rw [hz2]; omega) (by omega)
    rw [hz1, hzc2] at h
    exact h
theorem nd_made (u : World) : Nd (u.alloc (.cells madeN 79)) u.heap.size (fun _ => 0) (fun _ _ => false) := by
  have gen : ∀ (Z : Array Value), Z.size = 257 → ∀ j, j < 16448 → (madeCells Z 16448)[j]? = Z[j % 257]? := fun Z hs j hj => by
    unfold madeCells
    rw [Array.getElem?_map, Array.getElem?_range, if_pos hj, hs]
    have hm : j % 257 < Z.size := by rw [hs]; exact Nat.mod_lt _ (by decide)
    show some (Z[j % 257]!) = Z[j % 257]?
    rw [Array.getElem?_eq_getElem hm, getElem!_pos Z _ hm]
  have key : ∀ j, j < 16448 → madeN[j]? = (ndCells 0 fun _ => false)[j % 257]? := fun j hj => gen _ (ndCells_size 0 _) j hj
  refine ⟨_, heap_alloc_new u _, fun n hn => ⟨?_, fun i hi => ?_⟩⟩
  · rw [key _ (by omega), show n * 257 % 257 = 0 by omega]
    exact ndCells_zero 0 _
  · rw [key _ (by omega), show (n * 257 + 1 + i) % 257 = 1 + i by omega]
    exact ndCells_get 0 _ i hi

end Go.Proofs.YtbfllifgmlkndaaGreatDoor
