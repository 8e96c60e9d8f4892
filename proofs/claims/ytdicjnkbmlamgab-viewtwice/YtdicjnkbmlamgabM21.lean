/- VwRef6, VwRef7, VwRef8. -/
import Derived.Deep.RegionHeld3
import Derived.Test.YtdicjnkbmlamgabM19
namespace Go.Proofs.Ytdicjnkbmlamgab
open Go.RowKit
open Slot

theorem ret_rv2 {fn : Func} {p q : Tmp} (h : fn.results = #[.cell p 33, .tmp q]) {tmps : Array Value} {w : World} {b self g cap cur : Nat} {v : Value} (hp : tmps.getD p undef = .pointer (some ⟨b, 0, none⟩)) (hq : tmps.getD q undef = v) (hB : RVb w b self g cap cur) :
    (results fn tmps).run Try.prog w = .ok (.tuple #[.agg (rvc self g cap cur), v]) w := by
  have hp' : tmps[p]?.getD undef = .pointer (some ⟨b, 0, none⟩) := by simpa using hp
  have hq' : tmps[q]?.getD undef = v := by simpa using hq
  simp [results, h, hp', hq', asAddr, run_loadVar_row w b 33 33 (rvc self g cap cur) (0, 0) _ hB Try.underlying33 rfl (infoRV rfl)]
/-- the beginning of a call on a document's view: the view in a block, and the answer's -/
structure Beg (w W : World) (me g cap cur : Nat) : Prop where
  rv : RVb W w.heap.size me g cap cur
  res : W.heap[w.heap.size + 1]? = some (.cells #[.int .i64 0, .slice none 0 0, .int .u64 0] 33 (0, 0))
  bel : Below w.heap.size w W
  size : W.heap.size = w.heap.size + 2
theorem beg_new (w : World) (me g cap cur : Nat) : Beg w ((w.alloc (.cells (rvc me g cap cur) 33)).alloc (.cells #[.int .i64 0, .slice none 0 0, .int .u64 0] 33)) me g cap cur :=
  ⟨heap_alloc2_old w _ _, heap_alloc2_new w _ _, (below_alloc w _).alloc (by simp) _, by simp⟩
set_option maxHeartbeats 4000000 in
set_option maxRecDepth 100000 in
theorem give_yes (self g cap cur s n : Nat) (E : Nat → Nat) (K : Nat → Nat → Bool) (w : World) (hs : s < 16384) (hn : n < 64) (hN : Nd w g E K) : Calls Try.prog 30 #[.agg (rvc self g cap cur), .int .i64 (s : Int), .int .i64 (n : Int)] w fun e w' => ∃ g' cap', e = .returned (.tuple #[.agg (rvc self g' cap' cur), .int .i64 0]) ∧ Nd w' g' E (ownK K s n) ∧ w.heap.size ≤ g' ∧ Below w.heap.size w w' := by
  have HB0 := hid (beg_new w self g cap cur)
  have HN0 := hid (hN.below HB0.out.bel hN.lt)
  have HCo := hid (fun W h => rcopied_any self g cap cur E K W h)
  have HOw := hid (fun g' cap' W h => rowned_any self g' cap' cur s n E K W hs hn h)
  have h1 : ¬ (s : Int) < 0 := by omega
  have h2 : ¬ (16383 : Int) < (s : Int) := by omega
  have h3 : ¬ (n : Int) < 0 := by omega
  have h4 : ¬ (63 : Int) < (n : Int) := by omega
  clear hN
  generalize hRC : rvc self g cap cur = RC at *
  go_enter Try.func30, Try.ntmps30
  go_upto_region 1 with fail
  generalize (w.alloc (.cells RC 33)).alloc (.cells #[.int .i64 0, .slice none 0 0, .int .u64 0] 33) = w2 at *
  go_wp2_with (refine wpList_load_row rfl 33 _ rfl w.heap.size rfl 33 _ (0, 0) _ HB0.out.rv Try.underlying33 rfl (infoRV rfl) (Hid.out ?_))
  refine hid ?_
  go_wp2_with fail
  refine (HCo.out _ HN0.out).mono ?_; rintro e w3 ⟨g', cap', rfl, hNd, hge, hb⟩
  have HR3 : Hid (w3.heap[w.heap.size + 1]? = some (.cells #[.int .i64 0, .slice none 0 0, .int .u64 0] 33 (0, 0))) := (hb.block _ (by have := HB0.out.size; omega)).trans HB0.out.res
  have HW3 := hid (HB0.out.bel.trans (hb.mono HB0.out.bel.size))
  have HOw3 := hid (HOw.out g' cap' w3 hNd)
  have HGE : Hid (w.heap.size + 2 ≤ g') := by have := HB0.out.size; show _ ≤ _; omega
  clear hb hNd hge
  have hG2 : w.heap.size + 1 ≠ g' := by have := HGE.out; omega
  generalize hRC2 : rvc self g' cap' cur = RC2 at *
  go_wp2_with fail
  refine HOw3.out.mono ?_; rintro e w4 ⟨rfl, hNd, hon⟩
  have HR4 : Hid (w4.heap[w.heap.size + 1]? = some (.cells #[.int .i64 0, .slice none 0 0, .int .u64 0] 33 (0, 0))) := (hon.block _ (Array.getElem?_eq_some_iff.1 HR3.out).1 hG2).trans HR3.out
  have HW4 := hid (HW3.out.trans (hon.below (n := w.heap.size) (by have := HGE.out; omega) HW3.out.size))
  have HN4 := hid hNd
  have i2 : (Try.prog.info? 33).map (·.size) = some RC2.size := by rw [← hRC2]; exact infoRV rfl
  have o2 : RC2.all (·.oneCell') = true := by rw [← hRC2]; exact rvc_one _ _ _ _
  have z2 : (#[.int .i64 0, .slice none 0 0, .int .u64 0] : Array Value).size = RC2.size := by rw [← hRC2]; rfl
  have HV5 : Hid (RVb (w4.setRow (w.heap.size + 1) RC2) (w.heap.size + 1) self g' cap' cur) := by show _ = _; rw [hRC2]; exact setRow_heap _ _ _ _ _ _ HR4.out
  clear hon hNd
  go_wp2_with (refine wpList_store_row rfl 33 _ _ rfl (w.heap.size + 1) RC2 rfl rfl 33 _ HR4.out i2 z2 o2 (Hid.out ?_))
  refine hid ?_
  go_wp2_with fail
  refine bodyPost_ret (v := .tuple #[.agg (rvc self g' cap' cur), .int .i64 0]) ?_ rfl ?_
  · exact ret_rv2 rfl rfl rfl HV5.out
  · exact ⟨g', cap', rfl, HN4.out.turn (setRow_other _ _ _ _ (fun e => hG2 e.symm)), by have := HGE.out; omega, below_setRow HW4.out (by omega) _⟩
set_option maxHeartbeats 4000000 in
set_option maxRecDepth 100000 in
theorem give_no (self g cap cur : Nat) (s n c : Int) (w : World) (h : giveE s n = c) (hc : c ≠ 0) : Calls Try.prog 30 #[.agg (rvc self g cap cur), .int .i64 s, .int .i64 n] w fun e w' => e = .returned (.tuple #[.agg (rvc self g cap cur), .int .i64 c]) ∧ Below w.heap.size w w' := by
  have HB0 := hid (beg_new w self g cap cur)
  have HV : Hid (RVb (((w.alloc (.cells (rvc self g cap cur) 33)).alloc (.cells #[.int .i64 0, .slice none 0 0, .int .u64 0] 33)).setRow (w.heap.size + 1) (rvc self g cap cur)) (w.heap.size + 1) self g cap cur) := setRow_heap _ _ _ _ _ _ HB0.out.res
  have HH : Hid (giveE s n = c ∧ c ≠ 0) := ⟨h, hc⟩
  have HI : Hid ((Try.prog.info? 33).map (·.size) = some (rvc self g cap cur).size) := infoRV rfl
  have HO := hid (rvc_one self g cap cur)
  clear h hc
  by_cases h0 : s < 0
  · obtain rfl : c = 1 := by
      rw [← HH.out.1]; unfold giveE slotB; rw [decide_eq_false (by omega)]; rfl
    go_enter Try.func30, Try.ntmps30
    go_wp2_with (first | (refine wpList_load_row rfl 33 _ rfl w.heap.size rfl 33 _ (0, 0) _ HB0.out.rv Try.underlying33 rfl HI.out ?_) | (refine wpList_store_row rfl 33 _ _ rfl (w.heap.size + 1) (rvc self g cap cur) rfl rfl 33 _ HB0.out.res HI.out rfl HO.out ?_))
    refine bodyPost_ret (v := .tuple #[.agg (rvc self g cap cur), .int .i64 1]) ?_ rfl ?_
    · exact ret_rv2 rfl rfl rfl HV.out
    · exact ⟨rfl, below_setRow HB0.out.bel (by omega) _⟩
  · by_cases h1 : 16383 < s
    · obtain rfl : c = 1 := by
        rw [← HH.out.1]; unfold giveE slotB; rw [decide_eq_false (by omega)]; rfl
      go_enter Try.func30, Try.ntmps30
      go_wp2_with (first | (refine wpList_load_row rfl 33 _ rfl w.heap.size rfl 33 _ (0, 0) _ HB0.out.rv Try.underlying33 rfl HI.out ?_) | (refine wpList_store_row rfl 33 _ _ rfl (w.heap.size + 1) (rvc self g cap cur) rfl rfl 33 _ HB0.out.res HI.out rfl HO.out ?_))
      refine bodyPost_ret (v := .tuple #[.agg (rvc self g cap cur), .int .i64 1]) ?_ rfl ?_
      · exact ret_rv2 rfl rfl rfl HV.out
      · exact ⟨rfl, below_setRow HB0.out.bel (by omega) _⟩
    · have hb : slotB s = true := decide_eq_true (by omega)
      have hn : ¬ (0 ≤ n ∧ n < 64) := fun hn => HH.out.2 (by rw [← HH.out.1]; unfold giveE; rw [if_pos hb, if_pos hn])
      obtain rfl : c = 150 := by
        rw [← HH.out.1]; unfold giveE; rw [if_pos hb, if_neg hn]
      by_cases h2 : n < 0
      · clear hn
        go_enter Try.func30, Try.ntmps30
        go_wp2_with (first | (refine wpList_load_row rfl 33 _ rfl w.heap.size rfl 33 _ (0, 0) _ HB0.out.rv Try.underlying33 rfl HI.out ?_) | (refine wpList_store_row rfl 33 _ _ rfl (w.heap.size + 1) (rvc self g cap cur) rfl rfl 33 _ HB0.out.res HI.out rfl HO.out ?_))
        refine bodyPost_ret (v := .tuple #[.agg (rvc self g cap cur), .int .i64 150]) ?_ rfl ?_
        · exact ret_rv2 rfl rfl rfl HV.out
        · exact ⟨rfl, below_setRow HB0.out.bel (by omega) _⟩
      · have h3 : 63 < n := by omega
        clear hn
        go_enter Try.func30, Try.ntmps30
        go_wp2_with (first | (refine wpList_load_row rfl 33 _ rfl w.heap.size rfl 33 _ (0, 0) _ HB0.out.rv Try.underlying33 rfl HI.out ?_) | (refine wpList_store_row rfl 33 _ _ rfl (w.heap.size + 1) (rvc self g cap cur) rfl rfl 33 _ HB0.out.res HI.out rfl HO.out ?_))
        refine bodyPost_ret (v := .tuple #[.agg (rvc self g cap cur), .int .i64 150]) ?_ rfl ?_
        · exact ret_rv2 rfl rfl rfl HV.out
        · exact ⟨rfl, below_setRow HB0.out.bel (by omega) _⟩

end Go.Proofs.Ytdicjnkbmlamgab

namespace Go.Proofs.Ytdicjnkbmlamgab
open Go.RowKit
open Slot

set_option maxHeartbeats 4000000 in
set_option maxRecDepth 100000 in
theorem win_yes (self g cap cur s least : Nat) (E : Nat → Nat) (K0 : Nat → Nat → Bool) (w : World) (hs : s < 16384) (hself : self < 64) (hl : least ≤ 4611686018427387904) (hcur : cur < 9223372036854775808) (hN : Nd w g E K0) : Calls Try.prog 29 #[.agg (rvc self g cap cur), .int .i64 (s : Int), .int .u64 (least : Int)] w fun e w' => ∃ g' cap', e = .returned (.tuple #[.agg (rvc self g' cap' (max cur least + 1)), .int .i64 0]) ∧ Nd w' g' (fun m => if m = self then max cur least + 1 else E m) (ownK K0 s self) ∧ w.heap.size ≤ g' ∧ Below w.heap.size w w' := by
  have HB0 := hid (beg_new w self g cap cur)
  have HNd0 : Hid (Nd ((w.alloc (.cells (rvc self g cap cur) 33)).alloc (.cells #[.int .i64 0, .slice none 0 0, .int .u64 0] 33)).drew g E K0) := (hN.below HB0.out.bel hN.lt).turn rfl
  have HCo := hid (fun W h => rcopied_any self g cap cur E K0 W h)
  have HOw := hid (fun g' cap' W h => rowned_any self g' cap' cur s self E K0 W hs hself h)
  have HRa := hid (fun g' cap' W h => rraise_any self g' cap' (max cur least) E (ownK K0 s self) W hself (by omega) h)
  have h1 : ¬ (s : Int) < 0 := by omega
  have h2 : ¬ (16383 : Int) < (s : Int) := by omega
  have h3 : ¬ (4611686018427387904 : Int) < (least : Int) := by omega
  have HV0 : Hid (((w.alloc (.cells (rvc self g cap cur) 33)).alloc (.cells #[.int .i64 0, .slice none 0 0, .int .u64 0] 33)).heap[w.heap.size]? = some (.cells (rvc self g cap cur) 33 (0, 0))) := HB0.out.rv
  have HR0 := hid HB0.out.res
  have HW0 := hid HB0.out.bel
  have HSZ := hid HB0.out.size
  have c0 := (rv_cells HB0.out.rv).1
  have HC0 : Hid (∀ W : World, W.heap[w.heap.size]? = some (.cells (rvc self g cap cur) 33 (0, 0)) → W.cell? ⟨w.heap.size, 0, none⟩ = some (.int .i64 (self : Int))) := fun W h => (rv_cells h).1
  have IRC : Hid ((Try.prog.info? 33).map (·.size) = some (rvc self g cap cur).size) := infoRV rfl
  have HSz : Hid (∀ a b, (rvc self g cap cur).size = (rvc self a b cur).size) := fun a b => rfl
  clear hN HB0
  generalize hRC : rvc self g cap cur = RC at *
  go_enter Try.func29, Try.ntmps29
  go_upto_region 1 with fail
  generalize (w.alloc (.cells RC 33)).alloc (.cells #[.int .i64 0, .slice none 0 0, .int .u64 0] 33) = w2 at *
  clear hRC
  go_wp2_with fail
  refine wp_region_noPanic ?_
  refine wp_region_held_drew (S := fun w' => w'.cell? ⟨w.heap.size, 0, none⟩ = some (.int .i64 (self : Int))) (by kernel_rfl) c0 (fun hHeld => ?_)
  refine wpAnyH_take (i := 2) (oi := { dst := some 21, op := Op.move (Operand.tmp 1), type := 3, pos := "ref.go:149", after := #[], guard := none }) (v := .int .i64 (s : Int)) rfl (by kernel_rfl) (by kernel_rfl) (by kernel_rfl) (fun _ _ _ h => h) (Or.inl ⟨by rfl, fun w hSw => ?_⟩) (by assumption) ?_
  · clear hHeld
    go_simp
  try simp only [Act.put, List.setIfInBounds_toArray, List.set_cons_zero, List.set_cons_succ]
  refine wpAnyH_take (i := 3) (oi := { dst := some 22, op := Op.fieldAddr 33 (Operand.tmp 3) 0, type := 0, pos := "ref.go:149", after := #[], guard := none }) (v := .pointer (some ⟨w.heap.size, 0, none⟩)) rfl (by kernel_rfl) (by kernel_rfl) (by kernel_rfl) (fun _ _ _ h => h) (Or.inl ⟨by rfl, fun w hSw => ?_⟩) (by assumption) ?_
  · clear hHeld
    go_simp
  try simp only [Act.put, List.setIfInBounds_toArray, List.set_cons_zero, List.set_cons_succ]
  refine wpAnyH_take (i := 4) (oi := { dst := some 23, op := Op.load 3 (Operand.tmp 22), type := 3, pos := "ref.go:149", after := #[{ on := 3, ground := Ground.data }], guard := none }) (v := .int .i64 (self : Int)) rfl (by kernel_rfl) (by kernel_rfl) (by kernel_rfl) (fun _ _ _ h => h) (Or.inl ⟨by rfl, fun w hSw => ?_⟩) (by assumption) ?_
  · clear hHeld
    go_simp
  try simp only [Act.put, List.setIfInBounds_toArray, List.set_cons_zero, List.set_cons_succ]
  refine wpAnyH_ready (rs := [0]) (by kernel_rfl) (by simp) ?_
  refine AllReadyH.cons (o := { dst := some 19, op := Op.load 33 (Operand.tmp 3), type := 33, pos := "ref.go:149", after := #[], guard := none }) rfl (fun K hK => ?_) AllReadyH.nil
  rw [if_pos (by rfl)]
  refine wp_load_row 33 _ rfl w.heap.size rfl 33 RC (0, 0) _ HV0.out Try.underlying33 rfl IRC.out ?_
  refine hK.out _ _ hHeld (fun hHeld => ?_)
  clear hK K
  try simp only [Act.put, List.setIfInBounds_toArray, List.set_cons_zero, List.set_cons_succ]
  refine wpAnyH_ready (rs := [1]) (by kernel_rfl) (by simp) ?_
  refine AllReadyH.cons (o := { dst := some 20, op := Op.call { callee := Callee.value (Operand.func 41), args := #[Operand.tmp 19], argTypes := #[33] }, type := 33, pos := "ref.go:149", after := #[{ on := 0, ground := Ground.data }], guard := none }) rfl (fun K hK => ?_) AllReadyH.nil
  clear hHeld
  go_simp
  refine (HCo.out _ HNd0.out).mono ?_; rintro e w3 ⟨g', cap', rfl, hNd, hge, hb⟩
  have HV3 : Hid (w3.heap[w.heap.size]? = some (.cells RC 33 (0, 0))) := (hb.block _ (by have := HSZ.out; show w.heap.size < w2.heap.size; omega)).trans HV0.out
  have HR3 : Hid (w3.heap[w.heap.size + 1]? = some (.cells #[.int .i64 0, .slice none 0 0, .int .u64 0] 33 (0, 0))) := (hb.block _ (by have := HSZ.out; show w.heap.size + 1 < w2.heap.size; omega)).trans HR0.out
  have HW3 := hid (HW0.out.drew.trans (hb.mono HW0.out.size))
  have HN3 := hid hNd
  have HGE : Hid (w2.heap.size ≤ g') := hge
  clear hb hNd hge
  have d0 : w3.cell? ⟨w.heap.size, 0, none⟩ = some (.int .i64 (self : Int)) := HC0.out _ HV3.out
  go_wp2_with fail
  refine hK.out _ _ d0 (fun hHeld => ?_)
  clear hK K
  try simp only [Act.put, List.setIfInBounds_toArray, List.set_cons_zero, List.set_cons_succ]
  refine wpAnyH_ready (rs := [5]) (by kernel_rfl) (by simp) ?_
  refine AllReadyH.cons (o := { dst := some 24, op := Op.call { callee := Callee.value (Operand.func 46), args := #[Operand.tmp 20, Operand.tmp 21, Operand.tmp 23], argTypes := #[33, 3, 3] }, type := 33, pos := "ref.go:149", after := #[{ on := 1, ground := Ground.data }, { on := 2, ground := Ground.data }, { on := 4, ground := Ground.data }, { on := 1, ground := Ground.chain }], guard := none }) rfl (fun K hK => ?_) AllReadyH.nil
  clear hHeld
  have HOw3 := hid (HOw.out g' cap' w3 HN3.out)
  have hG1 : w.heap.size ≠ g' := by have := HGE.out; have := HSZ.out; omega
  have hG2 : w.heap.size + 1 ≠ g' := by have := HGE.out; have := HSZ.out; omega
  generalize hRC2 : rvc self g' cap' cur = RC2 at *
  go_simp
  refine HOw3.out.mono ?_; rintro e w4 ⟨rfl, hNd, hon⟩
  have HV4 : Hid (w4.heap[w.heap.size]? = some (.cells RC 33 (0, 0))) := (hon.block _ (Array.getElem?_eq_some_iff.1 HV3.out).1 hG1).trans HV3.out
  have HR4 : Hid (w4.heap[w.heap.size + 1]? = some (.cells #[.int .i64 0, .slice none 0 0, .int .u64 0] 33 (0, 0))) := (hon.block _ (Array.getElem?_eq_some_iff.1 HR3.out).1 hG2).trans HR3.out
  have HW4 := hid (HW3.out.trans (hon.below (n := w.heap.size) (by have := HGE.out; have := HSZ.out; omega) HW3.out.size))
  have HN4 := hid hNd
  clear hon hNd d0
  have d0 : w4.cell? ⟨w.heap.size, 0, none⟩ = some (.int .i64 (self : Int)) := HC0.out _ HV4.out
  go_wp2_with fail
  refine hK.out _ _ d0 (fun hHeld => ?_)
  clear hK K
  try simp only [Act.put, List.setIfInBounds_toArray, List.set_cons_zero, List.set_cons_succ]
  refine wpAnyH_ready (rs := [6]) (by kernel_rfl) (by simp) ?_
  refine AllReadyH.cons (o := { dst := none, op := Op.store 33 (Operand.tmp 3) (Operand.tmp 24), type := 0, pos := "ref.go:149", after := #[{ on := 5, ground := Ground.data }, { on := 5, ground := Ground.chain }, { on := 0, ground := Ground.phase }, { on := 1, ground := Ground.phase }, { on := 2, ground := Ground.phase }, { on := 3, ground := Ground.phase }, { on := 4, ground := Ground.phase }, { on := 5, ground := Ground.phase }], guard := none }) rfl (fun K hK => ?_) AllReadyH.nil
  rw [if_pos (by rfl)]
  have HV5 : Hid (RVb (w4.setRow w.heap.size RC2) w.heap.size self g' cap' cur) := by show _ = _; rw [hRC2]; exact setRow_heap _ _ _ _ _ _ HV4.out
  have i2 : (Try.prog.info? 33).map (·.size) = some RC2.size := by rw [← hRC2]; exact infoRV rfl
  refine wp_store_row 33 _ _ rfl w.heap.size RC2 rfl rfl 33 RC HV4.out i2 (by rw [← hRC2]; exact HSz.out _ _) (by rw [← hRC2]; exact rvc_one _ _ _ _) ?_
  refine hK.out _ _ (rv_cells HV5.out).1 (fun hHeld => ?_)
  clear hK K hHeld d0
  simp only [Act.put]
  refine wpAnyH_done (by kernel_rfl) ?_ _
  refine NoPanic.normal ?_
  have HR5 : Hid ((w4.setRow w.heap.size RC2).heap[w.heap.size + 1]? = some (.cells #[.int .i64 0, .slice none 0 0, .int .u64 0] 33 (0, 0))) := (setRow_other _ _ _ _ (by omega)).trans HR4.out
  have HW5 := hid (below_setRow HW4.out (Nat.le_refl w.heap.size) RC2)
  have HN5 : Hid (Nd (w4.setRow w.heap.size RC2) g' E (ownK K0 s self)) := HN4.out.turn (setRow_other _ _ _ _ (fun e => hG1 e.symm))
  generalize w4.setRow w.heap.size RC2 = w5 at HV5 HR5 HW5 HN5 ⊢
  clear HV4 HR4 HW4 HN4 HV3 HR3 HW3 HN3 HOw3 c0 HV0 HR0 HW0
  obtain ⟨c0, c1, c2⟩ := rv_cells HV5.out
  have f2 := HV5.out.frozen 2
  have HV6 := hid (HV5.out.setCur (max cur least))
  have HR6 : Hid ((w5.setCell ⟨w.heap.size, 2, none⟩ (.int .u64 ((max cur least : Nat) : Int))).heap[w.heap.size + 1]? = some (.cells #[.int .i64 0, .slice none 0 0, .int .u64 0] 33 (0, 0))) := (Below.heap_setCell _ _ _ _ (by show w.heap.size + 1 ≠ w.heap.size; omega)).trans HR5.out
  have HW6 := hid (HW5.out.setCell (p := ⟨w.heap.size, 2, none⟩) (Nat.le_refl _) (.int .u64 ((max cur least : Nat) : Int)))
  have HN6 : Hid (Nd (w5.setCell ⟨w.heap.size, 2, none⟩ (.int .u64 ((max cur least : Nat) : Int))) g' E (ownK K0 s self)) := HN5.out.turn (Below.heap_setCell _ _ _ _ (fun e => hG1 e.symm))
  have HRa6 := hid (HRa.out g' cap' _ HN6.out)
  have hmx : (if cur < least then (least : Int) else (cur : Int)) = ((max cur least : Nat) : Int) := by split <;> omega
  generalize hM : max cur least = M at *
  have HM := hid hM
  clear hM
  go_upto_region 5 with fail
  generalize w5.setCell ⟨w.heap.size, 2, none⟩ (.int .u64 (M : Int)) = w6 at HV6 HR6 HW6 HN6 HRa6 ⊢
  clear c0 c1 c2 f2 HV5 HR5 HW5 HN5 hmx
  generalize hRC3 : rvc self g' cap' M = RC3 at *
  have i3 : (Try.prog.info? 33).map (·.size) = some RC3.size := by rw [← hRC3]; exact infoRV rfl
  have HV6' : Hid (w6.heap[w.heap.size]? = some (.cells RC3 33 (0, 0))) := by rw [← hRC3]; exact HV6.out
  go_wp2_with (refine wpList_load_row rfl 33 _ rfl w.heap.size rfl 33 _ (0, 0) _ HV6'.out Try.underlying33 rfl i3 (Hid.out ?_))
  refine hid ?_
  go_wp2_with fail
  refine HRa6.out.mono ?_; rintro e w7 ⟨rfl, hNd, hon⟩
  have HR7 : Hid (w7.heap[w.heap.size + 1]? = some (.cells #[.int .i64 0, .slice none 0 0, .int .u64 0] 33 (0, 0))) := (hon.block _ (Array.getElem?_eq_some_iff.1 HR6.out).1 hG2).trans HR6.out
  have HW7 := hid (HW6.out.trans (hon.below (n := w.heap.size) (by have := HGE.out; have := HSZ.out; omega) HW6.out.size))
  have HN7 := hid hNd
  clear hon hNd
  have HV8 : Hid (RVb (w7.setRow (w.heap.size + 1) (rvc self g' cap' (M + 1))) (w.heap.size + 1) self g' cap' (M + 1)) := setRow_heap _ _ _ _ _ _ HR7.out
  generalize hRC4 : rvc self g' cap' (M + 1) = RC4 at *
  have i4 : (Try.prog.info? 33).map (·.size) = some RC4.size := by rw [← hRC4]; exact infoRV rfl
  have o4 : RC4.all (·.oneCell') = true := by rw [← hRC4]; exact rvc_one _ _ _ _
  have z4 : (#[.int .i64 0, .slice none 0 0, .int .u64 0] : Array Value).size = RC4.size := by rw [← hRC4]; rfl
  go_wp2_with (refine wpList_store_row rfl 33 _ _ rfl (w.heap.size + 1) RC4 rfl rfl 33 _ HR7.out i4 z4 o4 (Hid.out ?_))
  refine hid ?_
  go_wp2_with fail
  refine bodyPost_ret (v := .tuple #[.agg (rvc self g' cap' (M + 1)), .int .i64 0]) ?_ rfl ?_
  · exact ret_rv2 rfl rfl rfl HV8.out
  · have hfin := HN7.out.turn (setRow_other w7 (w.heap.size + 1) g' RC4 (fun e => hG2 e.symm))
    refine ⟨g', cap', ?_, ?_, by have := HGE.out; have := HSZ.out; omega, below_setRow HW7.out (by omega) _⟩
    · rw [HM.out]
    · rw [HM.out]; exact hfin

end Go.Proofs.Ytdicjnkbmlamgab

namespace Go.Proofs.Ytdicjnkbmlamgab
open Go.RowKit
open Slot

set_option maxHeartbeats 4000000 in
set_option maxRecDepth 100000 in
theorem win_no (self g cap cur least : Nat) (s : Int) (w : World) (h : winE s least ≠ 0) : Calls Try.prog 29 #[.agg (rvc self g cap cur), .int .i64 s, .int .u64 (least : Int)] w fun e w' => e = .returned (.tuple #[.agg (rvc self g cap cur), .int .i64 (winE s least)]) ∧ Below w.heap.size w w' := by
  have HB0 := hid (beg_new w self g cap cur)
  have HV : Hid (RVb (((w.alloc (.cells (rvc self g cap cur) 33)).alloc (.cells #[.int .i64 0, .slice none 0 0, .int .u64 0] 33)).setRow (w.heap.size + 1) (rvc self g cap cur)) (w.heap.size + 1) self g cap cur) := setRow_heap _ _ _ _ _ _ HB0.out.res
  have HI : Hid ((Try.prog.info? 33).map (·.size) = some (rvc self g cap cur).size) := infoRV rfl
  have HO := hid (rvc_one self g cap cur)
  have h1 : ¬ (slotB s = true ∧ least ≤ big) := fun c => h (by unfold winE; rw [if_pos c])
  have e : winE s least = 1 := by unfold winE; rw [if_neg h1]
  rw [e]
  clear h e
  by_cases h0 : s < 0
  · clear h1
    go_enter Try.func29, Try.ntmps29
    go_wp2_with (first | (refine wpList_load_row rfl 33 _ rfl w.heap.size rfl 33 _ (0, 0) _ HB0.out.rv Try.underlying33 rfl HI.out ?_) | (refine wpList_store_row rfl 33 _ _ rfl (w.heap.size + 1) (rvc self g cap cur) rfl rfl 33 _ HB0.out.res HI.out rfl HO.out ?_))
    refine bodyPost_ret (v := .tuple #[.agg (rvc self g cap cur), .int .i64 1]) ?_ rfl ?_
    · exact ret_rv2 rfl rfl rfl HV.out
    · exact ⟨rfl, below_setRow HB0.out.bel (by omega) _⟩
  · by_cases h2 : 16383 < s
    · clear h1
      go_enter Try.func29, Try.ntmps29
      go_wp2_with (first | (refine wpList_load_row rfl 33 _ rfl w.heap.size rfl 33 _ (0, 0) _ HB0.out.rv Try.underlying33 rfl HI.out ?_) | (refine wpList_store_row rfl 33 _ _ rfl (w.heap.size + 1) (rvc self g cap cur) rfl rfl 33 _ HB0.out.res HI.out rfl HO.out ?_))
      refine bodyPost_ret (v := .tuple #[.agg (rvc self g cap cur), .int .i64 1]) ?_ rfl ?_
      · exact ret_rv2 rfl rfl rfl HV.out
      · exact ⟨rfl, below_setRow HB0.out.bel (by omega) _⟩
    · have h3 : (4611686018427387904 : Int) < (least : Int) := by
        have hb : slotB s = true := decide_eq_true (by omega)
        have : ¬ least ≤ big := fun c => h1 ⟨hb, c⟩
        unfold big at this
        omega
      clear h1
      go_enter Try.func29, Try.ntmps29
      go_wp2_with (first | (refine wpList_load_row rfl 33 _ rfl w.heap.size rfl 33 _ (0, 0) _ HB0.out.rv Try.underlying33 rfl HI.out ?_) | (refine wpList_store_row rfl 33 _ _ rfl (w.heap.size + 1) (rvc self g cap cur) rfl rfl 33 _ HB0.out.res HI.out rfl HO.out ?_))
      refine bodyPost_ret (v := .tuple #[.agg (rvc self g cap cur), .int .i64 1]) ?_ rfl ?_
      · exact ret_rv2 rfl rfl rfl HV.out
      · exact ⟨rfl, below_setRow HB0.out.bel (by omega) _⟩

end Go.Proofs.Ytdicjnkbmlamgab
