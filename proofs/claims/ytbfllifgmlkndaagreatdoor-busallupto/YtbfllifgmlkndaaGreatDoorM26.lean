/- VwTake2, VwTake3. -/
import Derived.Test.YtbfllifgmlkndaaGreatDoorM25
namespace Go.Proofs.YtbfllifgmlkndaaGreatDoor
open Go.RowKit
open Slot

/-- a call of Take on its way: the view in its block, the packet, the answer's block, and nodes of its own -/
structure Tak (w wr : World) (me g cap cur : Nat) (p : Pk) : Prop where
  bel : Below w.heap.size w wr
  rv : RVb wr w.heap.size me g cap cur
  pk : PBox wr (w.heap.size + 1) p
  res : wr.heap[w.heap.size + 2]? = some (.cells #[.int .i64 0, .slice none 0 0, .int .u64 0] 34 (0, 0))
theorem Tak.lt {w wr : World} {me g cap cur : Nat} {p : Pk} (h : Tak w wr me g cap cur p) : w.heap.size + 2 < wr.heap.size := (Array.getElem?_eq_some_iff.1 h.res).1
theorem Tak.call {w wr w' : World} {me g cap cur : Nat} {p : Pk} (h : Tak w wr me g cap cur p) (hb : Below wr.heap.size wr w') : Tak w w' me g cap cur p :=
  ⟨h.bel.trans (hb.mono h.bel.size), (hb.block _ h.rv.lt).trans h.rv, (hb.block _ h.pk.lt).trans h.pk, (hb.block _ h.lt).trans h.res⟩
theorem Tak.only {w wr w' : World} {me g cap cur c : Nat} {p : Pk} (h : Tak w wr me g cap cur p) (hb : Only c wr w') (hc : w.heap.size + 3 ≤ c) : Tak w w' me g cap cur p :=
  ⟨h.bel.trans (hb.below (by omega) h.bel.size), (hb.block _ h.rv.lt (by omega)).trans h.rv, (hb.block _ h.pk.lt (by omega)).trans h.pk, (hb.block _ h.lt (by omega)).trans h.res⟩
theorem Tak.put {w wr : World} {me g cap cur g2 cap2 cur2 : Nat} {p : Pk} (h : Tak w wr me g cap cur p) : Tak w (wr.setRow w.heap.size (rvc me g2 cap2 cur2)) me g2 cap2 cur2 p :=
  ⟨below_setRow h.bel (Nat.le_refl _) _, setRow_heap _ _ _ _ _ _ h.rv, (setRow_other _ _ _ _ (by omega)).trans h.pk, (setRow_other _ _ _ _ (by omega)).trans h.res⟩
theorem Tak.cur {w wr : World} {me g cap cur : Nat} {p : Pk} (h : Tak w wr me g cap cur p) (x : Nat) : Tak w (wr.setCell ⟨w.heap.size, 2, none⟩ (.int .u64 (x : Int))) me g cap x p :=
  ⟨h.bel.setCell (by exact Nat.le_refl _) _, h.rv.setCur x, (Below.heap_setCell wr ⟨w.heap.size, 2, none⟩ _ _ (by show w.heap.size + 1 ≠ w.heap.size; omega)).trans h.pk, (Below.heap_setCell wr ⟨w.heap.size, 2, none⟩ _ _ (by show w.heap.size + 2 ≠ w.heap.size; omega)).trans h.res⟩
theorem Tak.drew {w wr : World} {me g cap cur : Nat} {p : Pk} (h : Tak w wr me g cap cur p) : Tak w wr.drew me g cap cur p := ⟨⟨h.bel.os, h.bel.tape, h.bel.output, h.bel.size, h.bel.block⟩, h.rv, h.pk, h.res⟩
theorem tak_new (w : World) (me g cap cur : Nat) (p : Pk) : Tak w (((w.alloc (.cells (rvc me g cap cur) 34)).alloc (.cells (pkCells p) 53)).alloc (.cells #[.int .i64 0, .slice none 0 0, .int .u64 0] 34)) me g cap cur p :=
  ⟨((below_alloc w _).alloc (by simp) _).alloc (by simp; omega) _, (stay_new w g me cap cur p).rv, (stay_new w g me cap cur p).pk, (stay_new w g me cap cur p).res⟩
/-- what Take of an Update leaves -/
def UpdP (self cur C n EP : Nat) (p : Pk) (E : Nat → Nat) (K : Nat → Nat → Bool) (w : World) (e : Ending) (w' : World) : Prop :=
  ∃ g' cap', e = .returned (.tuple #[.agg (rvc self g' cap' (max cur C)), .slice none 0 0]) ∧ Nd w' g' (if E n ≤ EP then (fun m => if m = n then EP else E m) else E) (if E n ≤ EP then clK K n (wonK K E n p) else K) ∧ w.heap.size ≤ g' ∧ Below w.heap.size w w'
set_option maxHeartbeats 4000000 in
set_option maxRecDepth 100000 in
theorem take_upd_core (self g cap cur n C EP : Nat) (p : Pk) (E : Nat → Nat) (K : Nat → Nat → Bool) (F : Int) (w : World) (hk : p.kind = 3) (hf : p.frm = F) (ho : p.of_ = (n : Int)) (hc : p.cur = C) (he : p.epoch = EP) (hR : rightP p = true) (hC : C ≤ 4611686018427387904) (hF : F ≠ self) (hO : n ≠ self) (hn : n < 64) (hep : EP < 18446744073709551616) (hN : Nd w g E K) : Calls Tryz.prog 55 #[.agg (rvc self g cap cur), .agg (pkCells p)] w (UpdP self cur C n EP p E K w) := by
  have HT0 := hid (tak_new w self g cap cur p)
  have HN0 := hid (hN.below HT0.out.bel hN.lt)
  have HRt2 : Hid (∀ W, Calls Tryz.prog 63 #[.agg (pkCells p)] W fun e w' => e = .returned (.bool true) ∧ Below W.heap.size W w') := fun W => by
    have := rright_any p W
    rwa [hR] at this
  have HCo := hid (fun W h => rcopied_any self g cap cur E K W h)
  have HCl := hid (fun g' cap' cur' W h => rclaim_any self g' cap' cur' n p E K W hn (by rw [he]; exact hep) h)
  have hF2 : (F == (self : Int)) = false := beq_eq_false_iff_ne.2 hF
  have hO2 : ((n : Int) == (self : Int)) = false := beq_eq_false_iff_ne.2 (by omega)
  have hC2 : ¬ (4611686018427387904 : Int) < (C : Int) := by omega
  have HE := hid he
  clear hR hN hF hO he
  generalize hPC : pkCells p = PC at *
  have iP : (Tryz.prog.info? 53).map (·.size) = some PC.size := by rw [← hPC]; exact infoPk p
  have HPk : Hid (∀ W b, PBox W b p → W.heap[b]? = some (.cells PC 53 (0, 0))) := fun W b h => by rw [← hPC]; exact h
  clear hPC
  generalize hRC : rvc self g cap cur = RC at *
  have iR : (Tryz.prog.info? 34).map (·.size) = some RC.size := by rw [← hRC]; exact infoRV rfl
  have oR : RC.all (·.oneCell') = true := by rw [← hRC]; exact rvc_one _ _ _ _
  have HRv : Hid (∀ W b, RVb W b self g cap cur → W.heap[b]? = some (.cells RC 34 (0, 0))) := fun W b h => by rw [← hRC]; exact h
  have HRs : Hid (RC.size = 3) := by rw [← hRC]; rfl
  clear hRC
  go_enter Tryz.func55, Tryz.ntmps55
  go_upto_region 1 with fail
  generalize (((w.alloc (.cells RC 34)).alloc (.cells PC 53)).alloc (.cells #[.int .i64 0, .slice none 0 0, .int .u64 0] 34)) = w2 at *
  obtain ⟨p0, p1, p2, p3, p4⟩ := HT0.out.pk.cells
  rw [hk] at p0
  have HP0 := hid (HPk.out _ _ HT0.out.pk)
  go_wp2_with (refine wpList_load_row rfl 53 _ rfl (w.heap.size + 1) rfl 53 _ (0, 0) _ HP0.out Tryz.underlying53 rfl iP (Hid.out ?_))
  refine hid ?_
  go_wp2_with fail
  refine (HRt2.out _).mono ?_; rintro e w3 ⟨rfl, hb⟩
  have HT3 := hid (HT0.out.call hb)
  have HN3 := hid (HN0.out.below hb HN0.out.lt)
  clear hb HP0 p0 p1 p2 p3 p4
  have HV3 := hid (HRv.out _ _ HT3.out.rv)
  obtain ⟨p0, p1, p2, p3, p4⟩ := HT3.out.pk.cells
  obtain ⟨c0, c1, c2⟩ := rv_cells HT3.out.rv
  rw [hk] at p0
  rw [hf] at p1
  rw [ho] at p2
  rw [hc] at p4
  rw [HE.out] at p3
  go_wp2_with (refine wpList_load_row rfl 34 _ rfl w.heap.size rfl 34 _ (0, 0) _ HV3.out Tryz.underlying34 rfl iR (Hid.out ?_))
  refine hid ?_
  go_wp2_with fail
  refine (HCo.out _ HN3.out).mono ?_; rintro e w4 ⟨g', cap', rfl, hNd, hge, hb⟩
  have HT4 := hid (HT3.out.call hb)
  have HT5 : Hid (Tak w (w4.setRow w.heap.size (rvc self g' cap' cur)) self g' cap' cur p) := HT4.out.put
  have HGE : Hid (w.heap.size + 3 ≤ g') := by have := HT3.out.lt; show _ ≤ _; omega
  have HN5 : Hid (Nd (w4.setRow w.heap.size (rvc self g' cap' cur)) g' E K) := hNd.turn (setRow_other _ _ _ _ (by have := HGE.out; omega))
  have HV4 := hid (HRv.out _ _ HT4.out.rv)
  clear hb hNd hge p0 p1 p2 p3 p4 c0 c1 c2 HV3
  generalize hRC2 : rvc self g' cap' cur = RC2 at *
  have i2 : (Tryz.prog.info? 34).map (·.size) = some RC2.size := by rw [← hRC2]; exact infoRV rfl
  have o2 : RC2.all (·.oneCell') = true := by rw [← hRC2]; exact rvc_one _ _ _ _
  have z2 : RC.size = RC2.size := by rw [HRs.out, ← hRC2]; rfl
  go_wp2_with (refine wpList_store_row rfl 34 _ _ rfl w.heap.size RC2 rfl rfl 34 _ HV4.out i2 z2 o2 (Hid.out ?_))
  generalize w4.setRow w.heap.size RC2 = w5 at *
  refine hid ?_
  obtain ⟨p0, p1, p2, p3, p4⟩ := HT5.out.pk.cells
  obtain ⟨c0, c1, c2⟩ := rv_cells HT5.out.rv
  rw [hk] at p0
  rw [hf] at p1
  rw [ho] at p2
  rw [hc] at p4
  rw [HE.out] at p3
  have f2 := HT5.out.rv.frozen 2
  by_cases hm : cur < C
  · have hmxx : max (cur : Int) (C : Int) = (C : Int) := by omega
    go_upto_region 9 with fail
    clear hmxx
    have HT6 : Hid (Tak w (w5.setCell ⟨w.heap.size, 2, none⟩ (.int .u64 (C : Int))) self g' cap' C p) := HT5.out.cur C
    have HN6 : Hid (Nd (w5.setCell ⟨w.heap.size, 2, none⟩ (.int .u64 (C : Int))) g' E K) := HN5.out.turn (Below.heap_setCell _ _ _ _ (by have := HGE.out; show g' ≠ w.heap.size; omega))
    generalize w5.setCell ⟨w.heap.size, 2, none⟩ (.int .u64 (C : Int)) = w6 at HT6 HN6 ⊢
    have HMm : Hid (max cur C = C) := by show _ = _; omega
    clear p0 p1 p2 p3 p4 c0 c1 c2 f2 hm
    obtain ⟨p0, p1, p2, p3, p4⟩ := HT6.out.pk.cells
    obtain ⟨c0, c1, c2⟩ := rv_cells HT6.out.rv
    rw [HE.out] at p3
    have ce := HN6.out.ep hn
    have hnz : (n : Int) < 64 := by omega
    have HT7 := hid HT6.out.drew
    have HN7 : Hid (Nd w6.drew g' E K) := HN6.out.turn rfl
    have HV7 : Hid (w6.drew.heap[w.heap.size]? = some (.cells (rvc self g' cap' C) 34 (0, 0))) := HT7.out.rv
    have HP7 := hid (HPk.out _ _ HT7.out.pk)
    have HCl7 := hid (HCl.out g' cap' C _ HN7.out)
    obtain ⟨M, hM, HMx⟩ : ∃ M, M = C ∧ Hid (max cur C = M) := ⟨C, rfl, HMm.out⟩
    rw [← hM] at HT7 HV7 HCl7
    clear hM HMm
    generalize hRC3 : rvc self g' cap' M = RC3 at HV7 HCl7
    have i3 : (Tryz.prog.info? 34).map (·.size) = some RC3.size := by rw [← hRC3]; exact infoRV rfl
    have o3 : RC3.all (·.oneCell') = true := by rw [← hRC3]; exact rvc_one _ _ _ _
    have z4 : (#[.int .i64 0, .slice none 0 0, .int .u64 0] : Array Value).size = RC3.size := by rw [← hRC3]; rfl
    by_cases hge : E n ≤ EP
    · have HGe := hid hge
      have hgz : (E n : Int) ≤ (EP : Int) := by omega
      clear hge
      go_region
      generalize w6.drew = w7 at HT7 HN7 HV7 HP7 HCl7 ⊢
      go_wp2_with (first | (refine wpList_load_row rfl 34 _ rfl w.heap.size rfl 34 _ (0, 0) _ HV7.out Tryz.underlying34 rfl i3 ?_) | (refine wpList_load_row rfl 53 _ rfl (w.heap.size + 1) rfl 53 _ (0, 0) _ HP7.out Tryz.underlying53 rfl iP ?_))
      refine HCl7.out.mono ?_; rintro e w8 ⟨rfl, hNd, hon⟩
      have HT8 := hid (HT7.out.only hon HGE.out)
      have HV8 : Hid (w8.heap[w.heap.size]? = some (.cells RC3 34 (0, 0))) := by show _ = _; rw [← hRC3]; exact HT8.out.rv
      have HT9 : Hid (Tak w (w8.setRow w.heap.size RC3) self g' cap' M p) := by rw [← hRC3]; exact HT8.out.put
      have HN9 : Hid (Nd (w8.setRow w.heap.size RC3) g' (fun m => if m = n then EP else E m) (clK K n (wonK K E n p))) := by rw [← HE.out]; exact hNd.turn (setRow_other _ _ _ _ (by have := HGE.out; omega))
      have HV9 : Hid ((w8.setRow w.heap.size RC3).heap[w.heap.size]? = some (.cells RC3 34 (0, 0))) := setRow_heap _ _ _ _ _ _ HV8.out
      clear hNd hon
      go_wp2_with (refine wpList_store_row rfl 34 _ _ rfl w.heap.size RC3 rfl rfl 34 _ HV8.out i3 rfl o3 (Hid.out ?_))
      generalize w8.setRow w.heap.size RC3 = w9 at HT9 HN9 HV9 ⊢
      refine hid ?_
      have HR9 := hid HT9.out.res
      have HTe : Hid (RVb (w9.setRow (w.heap.size + 2) RC3) (w.heap.size + 2) self g' cap' M) := by show _ = _; rw [hRC3]; exact setRow_heap _ _ _ _ _ _ HT9.out.res
      go_wp2_with (first | (refine wpList_load_row rfl 34 _ rfl w.heap.size rfl 34 _ (0, 0) _ HV9.out Tryz.underlying34 rfl i3 ?_) | (refine wpList_store_row rfl 34 _ _ rfl (w.heap.size + 2) RC3 rfl rfl 34 _ HR9.out i3 z4 o3 ?_))
      refine bodyPost_ret (v := .tuple #[.agg (rvc self g' cap' M), .slice none 0 0]) ?_ rfl ?_
      · exact ret_rv2 rfl rfl rfl HTe.out
      · refine ⟨g', cap', by rw [HMx.out], ?_, by have := HGE.out; omega, below_setRow HT9.out.bel (by omega) _⟩
        rw [if_pos HGe.out, if_pos HGe.out]
        exact HN9.out.turn (setRow_other _ _ _ _ (by have := HGE.out; omega))
    · have HGe := hid hge
      have hgz : (EP : Int) < (E n : Int) := by omega
      clear hge
      go_region
      generalize w6.drew = w7 at HT7 HN7 HV7 HP7 HCl7 ⊢
      have HR7 := hid HT7.out.res
      have HTe : Hid (RVb (w7.setRow (w.heap.size + 2) RC3) (w.heap.size + 2) self g' cap' M) := by show _ = _; rw [hRC3]; exact setRow_heap _ _ _ _ _ _ HT7.out.res
      go_wp2_with (first | (refine wpList_load_row rfl 34 _ rfl w.heap.size rfl 34 _ (0, 0) _ HV7.out Tryz.underlying34 rfl i3 ?_) | (refine wpList_store_row rfl 34 _ _ rfl (w.heap.size + 2) RC3 rfl rfl 34 _ HR7.out i3 z4 o3 ?_))
      refine bodyPost_ret (v := .tuple #[.agg (rvc self g' cap' M), .slice none 0 0]) ?_ rfl ?_
      · exact ret_rv2 rfl rfl rfl HTe.out
      · refine ⟨g', cap', by rw [HMx.out], ?_, by have := HGE.out; omega, below_setRow HT7.out.bel (by omega) _⟩
        rw [if_neg HGe.out, if_neg HGe.out]
        exact HN7.out.turn (setRow_other _ _ _ _ (by have := HGE.out; omega))
  · have hmxx : max (cur : Int) (C : Int) = (cur : Int) := by omega
    go_upto_region 9 with fail
    clear hmxx
    have HT6 : Hid (Tak w (w5.setCell ⟨w.heap.size, 2, none⟩ (.int .u64 (cur : Int))) self g' cap' cur p) := HT5.out.cur cur
    have HN6 : Hid (Nd (w5.setCell ⟨w.heap.size, 2, none⟩ (.int .u64 (cur : Int))) g' E K) := HN5.out.turn (Below.heap_setCell _ _ _ _ (by have := HGE.out; show g' ≠ w.heap.size; omega))
    generalize w5.setCell ⟨w.heap.size, 2, none⟩ (.int .u64 (cur : Int)) = w6 at HT6 HN6 ⊢
    have HMm : Hid (max cur C = cur) := by show _ = _; omega
    clear p0 p1 p2 p3 p4 c0 c1 c2 f2 hm
    obtain ⟨p0, p1, p2, p3, p4⟩ := HT6.out.pk.cells
    obtain ⟨c0, c1, c2⟩ := rv_cells HT6.out.rv
    rw [HE.out] at p3
    have ce := HN6.out.ep hn
    have hnz : (n : Int) < 64 := by omega
    have HT7 := hid HT6.out.drew
    have HN7 : Hid (Nd w6.drew g' E K) := HN6.out.turn rfl
    have HV7 : Hid (w6.drew.heap[w.heap.size]? = some (.cells (rvc self g' cap' cur) 34 (0, 0))) := HT7.out.rv
    have HP7 := hid (HPk.out _ _ HT7.out.pk)
    have HCl7 := hid (HCl.out g' cap' cur _ HN7.out)
    obtain ⟨M, hM, HMx⟩ : ∃ M, M = cur ∧ Hid (max cur C = M) := ⟨cur, rfl, HMm.out⟩
    rw [← hM] at HT7 HV7 HCl7
    clear hM HMm
    generalize hRC3 : rvc self g' cap' M = RC3 at HV7 HCl7
    have i3 : (Tryz.prog.info? 34).map (·.size) = some RC3.size := by rw [← hRC3]; exact infoRV rfl
    have o3 : RC3.all (·.oneCell') = true := by rw [← hRC3]; exact rvc_one _ _ _ _
    have z4 : (#[.int .i64 0, .slice none 0 0, .int .u64 0] : Array Value).size = RC3.size := by rw [← hRC3]; rfl
    by_cases hge : E n ≤ EP
    · have HGe := hid hge
      have hgz : (E n : Int) ≤ (EP : Int) := by omega
      clear hge
      go_region
      generalize w6.drew = w7 at HT7 HN7 HV7 HP7 HCl7 ⊢
      go_wp2_with (first | (refine wpList_load_row rfl 34 _ rfl w.heap.size rfl 34 _ (0, 0) _ HV7.out Tryz.underlying34 rfl i3 ?_) | (refine wpList_load_row rfl 53 _ rfl (w.heap.size + 1) rfl 53 _ (0, 0) _ HP7.out Tryz.underlying53 rfl iP ?_))
      refine HCl7.out.mono ?_; rintro e w8 ⟨rfl, hNd, hon⟩
      have HT8 := hid (HT7.out.only hon HGE.out)
      have HV8 : Hid (w8.heap[w.heap.size]? = some (.cells RC3 34 (0, 0))) := by show _ = _; rw [← hRC3]; exact HT8.out.rv
      have HT9 : Hid (Tak w (w8.setRow w.heap.size RC3) self g' cap' M p) := by rw [← hRC3]; exact HT8.out.put
      have HN9 : Hid (Nd (w8.setRow w.heap.size RC3) g' (fun m => if m = n then EP else E m) (clK K n (wonK K E n p))) := by rw [← HE.out]; exact hNd.turn (setRow_other _ _ _ _ (by have := HGE.out; omega))
      have HV9 : Hid ((w8.setRow w.heap.size RC3).heap[w.heap.size]? = some (.cells RC3 34 (0, 0))) := setRow_heap _ _ _ _ _ _ HV8.out
      clear hNd hon
      go_wp2_with (refine wpList_store_row rfl 34 _ _ rfl w.heap.size RC3 rfl rfl 34 _ HV8.out i3 rfl o3 (Hid.out ?_))
      generalize w8.setRow w.heap.size RC3 = w9 at HT9 HN9 HV9 ⊢
      refine hid ?_
      have HR9 := hid HT9.out.res
      have HTe : Hid (RVb (w9.setRow (w.heap.size + 2) RC3) (w.heap.size + 2) self g' cap' M) := by show _ = _; rw [hRC3]; exact setRow_heap _ _ _ _ _ _ HT9.out.res
      go_wp2_with (first | (refine wpList_load_row rfl 34 _ rfl w.heap.size rfl 34 _ (0, 0) _ HV9.out Tryz.underlying34 rfl i3 ?_) | (refine wpList_store_row rfl 34 _ _ rfl (w.heap.size + 2) RC3 rfl rfl 34 _ HR9.out i3 z4 o3 ?_))
      refine bodyPost_ret (v := .tuple #[.agg (rvc self g' cap' M), .slice none 0 0]) ?_ rfl ?_
      · exact ret_rv2 rfl rfl rfl HTe.out
      · refine ⟨g', cap', by rw [HMx.out], ?_, by have := HGE.out; omega, below_setRow HT9.out.bel (by omega) _⟩
        rw [if_pos HGe.out, if_pos HGe.out]
        exact HN9.out.turn (setRow_other _ _ _ _ (by have := HGE.out; omega))
    · have HGe := hid hge
      have hgz : (EP : Int) < (E n : Int) := by omega
      clear hge
      go_region
      generalize w6.drew = w7 at HT7 HN7 HV7 HP7 HCl7 ⊢
      have HR7 := hid HT7.out.res
      have HTe : Hid (RVb (w7.setRow (w.heap.size + 2) RC3) (w.heap.size + 2) self g' cap' M) := by show _ = _; rw [hRC3]; exact setRow_heap _ _ _ _ _ _ HT7.out.res
      go_wp2_with (first | (refine wpList_load_row rfl 34 _ rfl w.heap.size rfl 34 _ (0, 0) _ HV7.out Tryz.underlying34 rfl i3 ?_) | (refine wpList_store_row rfl 34 _ _ rfl (w.heap.size + 2) RC3 rfl rfl 34 _ HR7.out i3 z4 o3 ?_))
      refine bodyPost_ret (v := .tuple #[.agg (rvc self g' cap' M), .slice none 0 0]) ?_ rfl ?_
      · exact ret_rv2 rfl rfl rfl HTe.out
      · refine ⟨g', cap', by rw [HMx.out], ?_, by have := HGE.out; omega, below_setRow HT7.out.bel (by omega) _⟩
        rw [if_neg HGe.out, if_neg HGe.out]
        exact HN7.out.turn (setRow_other _ _ _ _ (by have := HGE.out; omega))

end Go.Proofs.YtbfllifgmlkndaaGreatDoor

namespace Go.Proofs.YtbfllifgmlkndaaGreatDoor
open Go.RowKit
open Slot

/-- what Take leaves, and answers -/
theorem take_upd (self g cap cur : Nat) (v : Vw) (p : Pk) (w : World) (hs : v.self = self) (hcu : v.cur = cur) (hown : ∀ t, v.own t ≤ 64) (hse : seen v p = true) (hk : p.kind = 3) (hN : Nd w g v.ep v.cl) : Calls Tryz.prog 55 #[.agg (rvc self g cap cur), .agg (pkCells p)] w fun e w' => ∃ g' cap', e = .returned (.tuple #[.agg (rvc self g' cap' (takeV v p).cur), .slice none 0 0]) ∧ Nd w' g' (takeV v p).ep (takeV v p).cl ∧ w.heap.size ≤ g' ∧ Below w.heap.size w w' := by
  obtain ⟨hr, hC, hF, hO⟩ := seen_right hse
  obtain ⟨hn, -, -, hof, hec, -, -⟩ := right_of hr
  have hof2 : ofN p = p.of_.toNat := by unfold ofN; rw [if_pos hk]
  have hO2 : p.of_ ≠ v.self := fun h => hO ⟨hk, h⟩
  have hbig : big = 4611686018427387904 := rfl
  rw [hbig] at hC
  rw [hof2] at hn
  refine (take_upd_core self g cap cur p.of_.toNat p.cur p.epoch p v.ep v.cl p.frm w hk rfl hof.symm rfl rfl hr hC (by rw [← hs]; exact hF) (fun h => hO2 (by rw [← hof, h, hs])) hn (by omega) hN).mono ?_
  rintro e w' ⟨g', cap', rfl, hNd, hge, hb⟩
  have e1 : takeV v p = take2 v p := by
    unfold takeV
    rw [if_pos hse]
    unfold take3
    rw [if_neg (fun h => h.1 hk)]
  have e2 : (take2 v p).cur = max v.cur p.cur := by
    unfold take2
    split <;> rfl
  refine ⟨g', cap', by rw [e1, e2, hcu], ?_, hge, hb⟩
  rw [e1]
  unfold take2
  rw [hof2]
  by_cases h : v.ep p.of_.toNat ≤ p.epoch
  · rw [if_pos h, if_pos h] at hNd
    rw [show (if (take1 v p).ep p.of_.toNat ≤ p.epoch then claimV (take1 v p) p.of_.toNat p else take1 v p) = claimV (take1 v p) p.of_.toNat p from if_pos h]
    exact claim_nd (v := take1 v p) hown hn hNd
  · rw [if_neg h, if_neg h] at hNd
    rw [show (if (take1 v p).ep p.of_.toNat ≤ p.epoch then claimV (take1 v p) p.of_.toNat p else take1 v p) = take1 v p from if_neg h]
    exact hNd

end Go.Proofs.YtbfllifgmlkndaaGreatDoor
