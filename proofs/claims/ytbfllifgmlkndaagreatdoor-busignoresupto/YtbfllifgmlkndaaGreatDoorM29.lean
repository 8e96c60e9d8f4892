/- VwTake4. -/
import Derived.Test.YtbfllifgmlkndaaGreatDoorM27
import Derived.Test.YtbfllifgmlkndaaGreatDoorM20
namespace Go.Proofs.YtbfllifgmlkndaaGreatDoor
open Go.RowKit
open Slot

/-- a call of Take behind the first lines: the view in its block, nodes of its own -/
def TN (w wx : World) (me g cap cur : Nat) (p : Pk) (E : Nat → Nat) (K : Nat → Nat → Bool) : Prop := Tak w wx me g cap cur p ∧ Nd wx g E K
theorem TN.call {w wr w' : World} {me g cap cur : Nat} {p : Pk} {E : Nat → Nat} {K : Nat → Nat → Bool} (h : TN w wr me g cap cur p E K) (hb : Below wr.heap.size wr w') : TN w w' me g cap cur p E K := ⟨h.1.call hb, h.2.below hb h.2.lt⟩
theorem TN.drew {w wr : World} {me g cap cur : Nat} {p : Pk} {E : Nat → Nat} {K : Nat → Nat → Bool} (h : TN w wr me g cap cur p E K) : TN w wr.drew me g cap cur p E K := ⟨h.1.drew, h.2.turn rfl⟩
theorem TN.only {w wr w' : World} {me g cap cur : Nat} {p : Pk} {E F : Nat → Nat} {K L : Nat → Nat → Bool} (h : TN w wr me g cap cur p E K) (hb : Only g wr w') (hg : w.heap.size + 3 ≤ g) (hn : Nd w' g F L) : TN w w' me g cap cur p F L := ⟨h.1.only hb hg, hn⟩
theorem TN.put {w wr : World} {me g cap cur cur2 : Nat} {p : Pk} {E : Nat → Nat} {K : Nat → Nat → Bool} (h : TN w wr me g cap cur p E K) (hg : w.heap.size + 3 ≤ g) : TN w (wr.setRow w.heap.size (rvc me g cap cur2)) me g cap cur2 p E K :=
  ⟨h.1.put, h.2.turn (setRow_other _ _ _ _ (by omega))⟩
theorem TN.cur {w wr : World} {me g cap cur : Nat} {p : Pk} {E : Nat → Nat} {K : Nat → Nat → Bool} (h : TN w wr me g cap cur p E K) (hg : w.heap.size + 3 ≤ g) (x : Nat) : TN w (wr.setCell ⟨w.heap.size, 2, none⟩ (.int .u64 (x : Int))) me g cap x p E K :=
  ⟨h.1.cur x, h.2.turn (Below.heap_setCell _ _ _ _ (by show g ≠ w.heap.size; omega))⟩
theorem TN.fresh {w wr w' : World} {me g cap cur : Nat} {p : Pk} {E : Nat → Nat} {K : Nat → Nat → Bool} (h : TN w wr me g cap cur p E K) (hb : Below (g + 1) wr w') (hg : w.heap.size + 3 ≤ g) : TN w w' me g cap cur p E K :=
  ⟨⟨h.1.bel.trans (hb.mono (by omega)), (hb.block _ (by omega)).trans h.1.rv, (hb.block _ (by omega)).trans h.1.pk, (hb.block _ (by omega)).trans h.1.res⟩, h.2.turn (hb.block g (by omega))⟩
theorem TN.cells {w wr : World} {me g cap cur : Nat} {p : Pk} {E : Nat → Nat} {K : Nat → Nat → Bool} (h : TN w wr me g cap cur p E K) : wr.cell? ⟨w.heap.size, 0, none⟩ = some (.int .i64 (me : Int)) ∧ wr.cell? ⟨w.heap.size, 1, none⟩ = some (.slice (some ⟨g, 0, none⟩) 64 cap) ∧ wr.cell? ⟨w.heap.size, 2, none⟩ = some (.int .u64 (cur : Int)) := rv_cells h.1.rv
theorem Nd.cl_range {w : World} {g : Nat} {E : Nat → Nat} {K : Nat → Nat → Bool} (h : Nd w g E K) {n : Nat} (hn : n < 64) : w.rangeAt g (n * 257 + 1) (cellsOf (K n)).toList := fun j v hv => by
  have hj : j < 256 := by
    have := (List.getElem?_eq_some_iff.1 hv).1
    rwa [Array.length_toList, cellsOf_size] at this
  rw [Array.getElem?_toList, cellsOf_get _ j hj] at hv
  rw [h.wd hn hj]; exact hv
set_option maxRecDepth 100000 in
theorem upd_form (k f t : Int) (e c : Nat) (S : Nat → Bool) : Array.foldl (fun cs (x : Value × Nat) => cs.setIfInBounds (5 + x.snd) x.fst)
          (((((Tryz.zeroCells53.setIfInBounds 0 (Value.int IntKind.i64 k)).setIfInBounds 1 (Value.int IntKind.i64 f)).setIfInBounds 2 (Value.int IntKind.i64 t)).setIfInBounds 3 (Value.int IntKind.u64 e)).setIfInBounds 4 (Value.int IntKind.u64 c))
          (cellsOf S).zipIdx 0 (cellsOf S).size = pkCells ⟨k, f, t, e, c, S⟩ := by
  have hs : (cellsOf S).size = 256 := cellsOf_size S
  have hz := zsize
  have a := fun w : World => build_pk ⟨k, f, t, e, c, S⟩ w
  simp only [go_sem, hs] at a
  simp [hz] at a
  exact a
/-- the epochs, the slots and the greatest epoch behind a claim, and behind a raise -/
def cE (E : Nat → Nat) (n EP : Nat) : Nat → Nat := if E n ≤ EP then (fun m => if m = n then EP else E m) else E
def cK (E : Nat → Nat) (K : Nat → Nat → Bool) (n EP : Nat) (p : Pk) : Nat → Nat → Bool := if E n ≤ EP then clK K n (wonK K E n p) else K
def rE (E : Nat → Nat) (me n EP M : Nat) : Nat → Nat := if EP = E me ∧ me < n then (fun m => if m = me then M + 1 else E m) else E
def rM (E : Nat → Nat) (me n EP M : Nat) : Nat := if EP = E me ∧ me < n then M + 1 else M

/-- what region 20 reads -/
def Sr (h me g cap cur o eo : Nat) (CX : Array Value) (W : World) : Prop := (W.cell? ⟨h, 0, none⟩ = some (.int .i64 (me : Int)) ∧ W.cell? ⟨h, 1, none⟩ = some (.slice (some ⟨g, 0, none⟩) 64 cap) ∧ W.cell? ⟨h, 2, none⟩ = some (.int .u64 (cur : Int))) ∧ W.cell? ⟨g, o * 257, none⟩ = some (.int .u64 (eo : Int)) ∧ W.rangeAt g (o * 257 + 1) CX.toList
theorem sr_below {h me g cap cur o eo n : Nat} {CX : Array Value} {W W' : World} (hs : Sr h me g cap cur o eo CX W) (hb : Below n W W') (h1 : h < n) (h2 : g < n) : Sr h me g cap cur o eo CX W' := by
  obtain ⟨⟨s0, s1, s2⟩, ce, cr⟩ := hs
  exact ⟨⟨(hb.cell (p := ⟨h, 0, none⟩) h1).trans s0, (hb.cell (p := ⟨h, 1, none⟩) h1).trans s1, (hb.cell (p := ⟨h, 2, none⟩) h1).trans s2⟩, (hb.cell (p := ⟨g, o * 257, none⟩) h2).trans ce, fun j v hv => (hb.cell (p := ⟨g, o * 257 + 1 + j, none⟩) h2).trans (cr j v hv)⟩
/-- what Take leaves, and answers -/
def OthP (w : World) (me M n EP : Nat) (p : Pk) (E : Nat → Nat) (K : Nat → Nat → Bool) (L : List Pk) (e : Ending) (w' : World) : Prop :=
  ∃ g cap v, e = .returned (.tuple #[.agg (rvc me g cap (rM (cE E n EP) me n EP M)), v]) ∧ Nd w' g (rE (cE E n EP) me n EP M) (cK E K n EP p) ∧ w.heap.size ≤ g ∧ OwnP w.heap.size w' v L ∧ Below w.heap.size w w'

set_option maxHeartbeats 8000000 in
set_option maxRecDepth 100000 in
theorem take_oth_core (self g cap cur n C EP M : Nat) (p : Pk) (KD : Int) (Z : Bool) (BT : Int) (E : Nat → Nat) (K : Nat → Nat → Bool) (L1 L2 : List Pk) (w : World) (hM : M = max cur C) (hk : p.kind = KD) (h3 : KD ≠ 3) (hZ : Z = (KD == 1 || KD == 4)) (hf : p.frm = (n : Int)) (hc : p.cur = C) (he : p.epoch = EP) (hR : rightP p = true) (hC : C ≤ 4611686018427387904) (hF : n ≠ self) (hs : self < 64) (hn : n < 64) (hcu : cur < 9223372036854775807) (hep : EP < 18446744073709551616)
    (hL1 : L1 = if Z = true then [⟨2, self, 0, rE (cE E n EP) self n EP M self, rM (cE E n EP) self n EP M, cK E K n EP p self⟩] else [])
    (hLn : L1.length ≤ 1000)
    (hBt : ∀ g cap W, Nd W g (rE (cE E n EP) self n EP M) (cK E K n EP p) → Calls Tryz.prog 78 #[.agg (rvc self g cap (rM (cE E n EP) self n EP M)), .agg (pkCells p)] W fun e w' => e = .returned (.int .i64 BT) ∧ Below W.heap.size W w')
    (hL2 : (BT < 0 ∧ L2 = L1) ∨ ∃ o : Nat, BT = o ∧ o < 64 ∧ L2 = L1 ++ [⟨3, self, o, rE (cE E n EP) self n EP M o, rM (cE E n EP) self n EP M, cK E K n EP p o⟩])
    (hN : Nd w g E K) : Calls Tryz.prog 55 #[.agg (rvc self g cap cur), .agg (pkCells p)] w (OthP w self M n EP p E K L2) := by
  have HT0 := hid (tak_new w self g cap cur p)
  have HN0 := hid (hN.below HT0.out.bel hN.lt)
  have HRt2 : Hid (∀ W, Calls Tryz.prog 63 #[.agg (pkCells p)] W fun e w' => e = .returned (.bool true) ∧ Below W.heap.size W w') := fun W => by
    have := rright_any p W
    rwa [hR] at this
  have HCo := hid (fun W h => rcopied_any self g cap cur E K W h)
  have HCl := hid (fun g' cap' cur' W h => rclaim_any self g' cap' cur' n p E K W hn (by rw [he]; exact hep) h)
  have HRa := hid (fun g' cap' W h => rraise_any self g' cap' M (cE E n EP) (cK E K n EP p) W hs (by omega) h)
  have HTl := hid (fun g' cap' W h => rtell_any self g' cap' (rM (cE E n EP) self n EP M) 2 (rE (cE E n EP) self n EP M) (cK E K n EP p) W hs h)
  have HBt := hid hBt
  have HL1 := hid hL1
  have HLn := hid hLn
  have HL2 := hid hL2
  have HZ := hid hZ
  have h3f : (KD == 3) = false := beq_eq_false_iff_ne.2 h3
  have hF2 : ((n : Int) == (self : Int)) = false := beq_eq_false_iff_ne.2 (by omega)
  have hC2 : ¬ (4611686018427387904 : Int) < (C : Int) := by omega
  have HE := hid he
  have HMx := hid hM
  have HMb : Hid (M < 9223372036854775807) := by show _ < _; omega
  have HCU := hid hcu
  have hsz : (self : Int) < 64 := by omega
  have hnz : (n : Int) < 64 := by omega
  have HSz := hid hs
  clear hM hR hN hF he hBt hLn hL1 hL2 hZ hcu hs
  generalize hPC : pkCells p = PC at *
  have iP : (Tryz.prog.info? 53).map (·.size) = some PC.size := by rw [← hPC]; exact infoPk p
  have HPk : Hid (∀ W b, PBox W b p → W.heap[b]? = some (.cells PC 53 (0, 0))) := fun W b h => by rw [← hPC]; exact h
  clear hPC
  generalize hRC : rvc self g cap cur = RC at *
  have iR : (Tryz.prog.info? 34).map (·.size) = some RC.size := by rw [← hRC]; exact infoRV rfl
  have oR : RC.all (·.oneCell') = true := by rw [← hRC]; exact rvc_one _ _ _ _
  have HRv : Hid (∀ W b, RVb W b self g cap cur → W.heap[b]? = some (.cells RC 34 (0, 0))) := fun W b h => by rw [← hRC]; exact h
  have HRs : Hid (RC.size = 3) := by rw [← hRC]; rfl
  clear hRC
  go_enter Tryz.func55, Tryz.ntmps55
  go_upto_region 1 with fail
  generalize (((w.alloc (.cells RC 34)).alloc (.cells PC 53)).alloc (.cells #[.int .i64 0, .slice none 0 0, .int .u64 0] 34)) = w2 at *
  obtain ⟨p0, p1, p2, p3, p4⟩ := HT0.out.pk.cells
  rw [hk] at p0
  have HP0 := hid (HPk.out _ _ HT0.out.pk)
  go_wp2_with (refine wpList_load_row rfl 53 _ rfl (w.heap.size + 1) rfl 53 _ (0, 0) _ HP0.out Tryz.underlying53 rfl iP (Hid.out ?_))
  refine hid ?_
  go_wp2_with fail
  refine (HRt2.out _).mono ?_; rintro e w3 ⟨rfl, hb⟩
  have HT3 := hid (HT0.out.call hb)
  have HN3 := hid (HN0.out.below hb HN0.out.lt)
  clear hb HP0 p0 p1 p2 p3 p4
  have HV3 := hid (HRv.out _ _ HT3.out.rv)
  obtain ⟨p0, p1, p2, p3, p4⟩ := HT3.out.pk.cells
  obtain ⟨c0, c1, c2⟩ := rv_cells HT3.out.rv
  rw [hk] at p0
  rw [hf] at p1
  rw [hc] at p4
  rw [HE.out] at p3
  go_wp2_with (refine wpList_load_row rfl 34 _ rfl w.heap.size rfl 34 _ (0, 0) _ HV3.out Tryz.underlying34 rfl iR (Hid.out ?_))
  refine hid ?_
  go_wp2_with fail
  refine (HCo.out _ HN3.out).mono ?_; rintro e w4 ⟨g', cap', rfl, hNd, hge, hb⟩
  have HT4 := hid (HT3.out.call hb)
  have HGE : Hid (w.heap.size + 3 ≤ g') := by have := HT3.out.lt; show _ ≤ _; omega
  have HN5 : Hid (TN w (w4.setRow w.heap.size (rvc self g' cap' cur)) self g' cap' cur p E K) := ⟨HT4.out.put, hNd.turn (setRow_other _ _ _ _ (by have := HGE.out; omega))⟩
  have HV4 := hid (HRv.out _ _ HT4.out.rv)
  clear hb hNd hge p0 p1 p2 p3 p4 c0 c1 c2 HV3
  generalize hRC2 : rvc self g' cap' cur = RC2 at *
  have i2 : (Tryz.prog.info? 34).map (·.size) = some RC2.size := by rw [← hRC2]; exact infoRV rfl
  have o2 : RC2.all (·.oneCell') = true := by rw [← hRC2]; exact rvc_one _ _ _ _
  have z2 : RC.size = RC2.size := by rw [HRs.out, ← hRC2]; rfl
  go_wp2_with (refine wpList_store_row rfl 34 _ _ rfl w.heap.size RC2 rfl rfl 34 _ HV4.out i2 z2 o2 (Hid.out ?_))
  generalize w4.setRow w.heap.size RC2 = w5 at *
  refine hid ?_
  clear hRC2 i2 o2 z2 HV4 HT4 HT3 HN3 HT0 HN0 HRs HRv oR iR
  obtain ⟨p0, p1, p2, p3, p4⟩ := HN5.out.1.pk.cells
  obtain ⟨c0, c1, c2⟩ := rv_cells HN5.out.1.rv
  rw [hk] at p0
  rw [hf] at p1
  rw [hc] at p4
  rw [HE.out] at p3
  have f2 := HN5.out.1.rv.frozen 2
  go_upto_region 8 with fail
  go_cut [] (fun wx => Hid (TN w wx self g' cap' M p E K))
  case first =>
    by_cases hm : cur < C
    · have HMm : Hid (M = C) := by have := HMx.out; show _ = _; omega
      have hmxx : max (cur : Int) (C : Int) = (C : Int) := by omega
      go_wp2_with fail
      go_meet
      show TN _ _ _ _ _ _ _ _ _
      rw [HMm.out]
      exact HN5.out.cur HGE.out C
    · have HMm : Hid (M = cur) := by have := HMx.out; show _ = _; omega
      have hmxx : max (cur : Int) (C : Int) = (cur : Int) := by omega
      go_wp2_with fail
      go_meet
      show TN _ _ _ _ _ _ _ _ _
      rw [HMm.out]
      exact HN5.out.cur HGE.out cur
  case rest =>
  clear p0 p1 p2 p3 p4 c0 c1 c2 f2 HN5
  have HN6 := hid hcut.out
  clear hcut
  generalize wc = w6 at *
  obtain ⟨p0, p1, p2, p3, p4⟩ := HN6.out.1.pk.cells
  obtain ⟨c0, c1, c2⟩ := rv_cells HN6.out.1.rv
  rw [HE.out] at p3
  have ce := HN6.out.2.ep hn
  have HN7 := hid HN6.out.drew
  have HV7 : Hid (w6.drew.heap[w.heap.size]? = some (.cells (rvc self g' cap' M) 34 (0, 0))) := HN7.out.1.rv
  have HP7 := hid (HPk.out _ _ HN7.out.1.pk)
  have HCl7 := hid (HCl.out g' cap' M _ HN7.out.2)
  generalize hRC3 : rvc self g' cap' M = RC3 at HV7 HCl7
  have i3 : (Tryz.prog.info? 34).map (·.size) = some RC3.size := by rw [← hRC3]; exact infoRV rfl
  have o3 : RC3.all (·.oneCell') = true := by rw [← hRC3]; exact rvc_one _ _ _ _
  have HVb : Hid (∀ W x, RVb W x self g' cap' M → W.heap[x]? = some (.cells RC3 34 (0, 0))) := fun W x h => by rw [← hRC3]; exact h
  have HPut : Hid (∀ W E K, TN w W self g' cap' M p E K → TN w (W.setRow w.heap.size RC3) self g' cap' M p E K) := fun W E K h => by rw [← hRC3]; exact h.put HGE.out
  go_upto_region 9 with fail
  go_region
  generalize w6.drew = w7 at HN7 HV7 HP7 HCl7 ⊢
  go_upto_if 60 with fail
  go_cut [] (fun wx => Hid (TN w wx self g' cap' M p (cE E n EP) (cK E K n EP p)))
  case first =>
    by_cases hge : E n ≤ EP
    · have HGe := hid hge
      have hgz : (E n : Int) ≤ (EP : Int) := by omega
      clear hge
      go_wp2_with (first | (refine wpList_load_row rfl 34 _ rfl w.heap.size rfl 34 _ (0, 0) _ HV7.out Tryz.underlying34 rfl i3 ?_) | (refine wpList_load_row rfl 53 _ rfl (w.heap.size + 1) rfl 53 _ (0, 0) _ HP7.out Tryz.underlying53 rfl iP ?_))
      refine HCl7.out.mono ?_; rintro e w8 ⟨rfl, hNd, hon⟩
      rw [HE.out] at hNd
      have HT8 := hid (HN7.out.only hon HGE.out hNd)
      have HV8 := hid (HVb.out _ _ HT8.out.1.rv)
      clear hNd hon
      go_wp2_with (refine wpList_store_row rfl 34 _ _ rfl w.heap.size RC3 rfl rfl 34 _ HV8.out i3 rfl o3 ?_)
      go_meet
      show TN _ _ _ _ _ _ _ _ _
      unfold cE cK
      rw [if_pos HGe.out, if_pos HGe.out]
      exact HPut.out _ _ _ HT8.out
    · have HGe := hid hge
      have hgz : (EP : Int) < (E n : Int) := by omega
      clear hge
      go_wp2_with fail
      go_meet
      show TN _ _ _ _ _ _ _ _ _
      unfold cE cK
      rw [if_neg HGe.out, if_neg HGe.out]
      exact HN7.out
  case rest =>
  have HN8 := hid hcut.out
  clear hcut HN7 HV7 HP7 HCl7 HN6 p0 p1 p2 p3 p4 c0 c1 c2 ce
  generalize wc = w8 at *
  obtain ⟨p0, p1, p2, p3, p4⟩ := HN8.out.1.pk.cells
  obtain ⟨c0, c1, c2⟩ := HN8.out.cells
  rw [HE.out] at p3
  have ce := HN8.out.2.ep HSz.out
  go_upto_region 13 with fail
  go_cut [82] (fun c82 wx => c82 = .bool (decide (EP = cE E n EP self ∧ self < n)) ∧ Hid (TN w wx self g' cap' M p (cE E n EP) (cK E K n EP p)))
  case first =>
    by_cases e1 : EP = cE E n EP self
    · have e1b : ((EP : Int) == (cE E n EP self : Int)) = true := by rw [← e1]; simp
      by_cases e2 : self < n
      · have e2z : (self : Int) < (n : Int) := by omega
        have HD : Hid (decide (EP = cE E n EP self ∧ self < n) = true) := decide_eq_true ⟨e1, e2⟩
        generalize (cE E n EP self : Int) = x at ce e1b
        clear e1 e2
        go_region
        go_wp2_with fail
        go_meet
        exact ⟨by rw [HD.out], HN8.out.drew⟩
      · have e2z : (n : Int) ≤ (self : Int) := by omega
        have HD : Hid (decide (EP = cE E n EP self ∧ self < n) = false) := decide_eq_false (fun c => e2 c.2)
        have HE2 := hid (decide_eq_false e2)
        generalize (cE E n EP self : Int) = x at ce e1b
        clear e1 e2
        go_region
        go_wp2_with fail
        go_meet
        exact ⟨by rw [HD.out, HE2.out], HN8.out.drew⟩
    · have e1b : ((EP : Int) == (cE E n EP self : Int)) = false := beq_eq_false_iff_ne.2 (by omega)
      have e1c : ¬ (EP : Int) = (cE E n EP self : Int) := by omega
      have HD : Hid (decide (EP = cE E n EP self ∧ self < n) = false) := decide_eq_false (fun c => e1 c.1)
      generalize (cE E n EP self : Int) = x at ce e1b e1c
      clear e1
      go_region
      go_wp2_with fail
      go_meet
      exact ⟨by rw [HD.out], HN8.out.drew⟩
  case rest =>
  obtain ⟨rfl, HN9⟩ := hcut
  clear HN8 p0 p1 p2 p3 p4 c0 c1 c2 ce
  generalize wc = w9 at *
  have HV9 := hid (HVb.out _ _ HN9.out.1.rv)
  have HRa9 := hid (HRa.out g' cap' _ HN9.out.2)
  obtain ⟨RC5, hRC5⟩ : ∃ C, rvc self g' cap' (M + 1) = C := ⟨_, rfl⟩
  rw [hRC3, hRC5] at HRa9
  have i5 : (Tryz.prog.info? 34).map (·.size) = some RC5.size := by rw [← hRC5]; exact infoRV rfl
  have o5 : RC5.all (·.oneCell') = true := by rw [← hRC5]; exact rvc_one _ _ _ _
  have z5 : RC3.size = RC5.size := by rw [← hRC3, ← hRC5]; rfl
  have HPut5 : Hid (∀ W E K, TN w W self g' cap' M p E K → TN w (W.setRow w.heap.size RC5) self g' cap' (M + 1) p E K) := fun W E K h => by rw [← hRC5]; exact h.put HGE.out
  clear hRC5
  go_upto_if 82 with fail
  go_cut [] (fun wx => Hid (TN w wx self g' cap' (rM (cE E n EP) self n EP M) p (rE (cE E n EP) self n EP M) (cK E K n EP p)))
  case first =>
    by_cases hr : EP = cE E n EP self ∧ self < n
    · have HR := hid hr
      have hrb := decide_eq_true hr
      generalize decide (EP = cE E n EP self ∧ self < n) = RB at hrb ⊢
      subst hrb
      clear hr
      go_wp2_with (refine wpList_load_row rfl 34 _ rfl w.heap.size rfl 34 _ (0, 0) _ HV9.out Tryz.underlying34 rfl i3 ?_)
      refine HRa9.out.mono ?_; rintro e w10 ⟨rfl, hNd, hon⟩
      have HT10 := hid (HN9.out.only hon HGE.out hNd)
      have HV10 := hid (HVb.out _ _ HT10.out.1.rv)
      clear hNd hon
      go_wp2_with (refine wpList_store_row rfl 34 _ _ rfl w.heap.size RC5 rfl rfl 34 _ HV10.out i5 z5 o5 ?_)
      go_meet
      show TN _ _ _ _ _ _ _ _ _
      unfold rM rE
      rw [if_pos HR.out, if_pos HR.out]
      exact HPut5.out _ _ _ HT10.out
    · have HR := hid hr
      have hrb := decide_eq_false hr
      generalize decide (EP = cE E n EP self ∧ self < n) = RB at hrb ⊢
      subst hrb
      clear hr
      go_wp2_with fail
      go_meet
      show TN _ _ _ _ _ _ _ _ _
      unfold rM rE
      rw [if_neg HR.out, if_neg HR.out]
      exact HN9.out
  case rest =>
  have HN10 := hid hcut.out
  clear hcut HN9 HV9 HRa9 HPut5 i5 o5 z5 HPut HVb HRa HCl HCo i3 o3
  generalize wc = w10 at *
  clear hRC3
  obtain ⟨p0, p1, p2, p3, p4⟩ := HN10.out.1.pk.cells
  rw [hk] at p0
  go_upto_region 16 with fail
  go_cut [92] (fun c92 wx => c92 = .bool Z ∧ wx = w10)
  case first =>
    by_cases k1 : KD = 1
    · have k1b : (KD == 1) = true := by rw [k1]; rfl
      have HZ1 : Hid (Z = true) := by show _ = _; rw [HZ.out, k1b]; rfl
      clear k1
      go_wp2_with fail
      go_meet
      exact ⟨by rw [HZ1.out], rfl⟩
    · have k1b : (KD == 1) = false := beq_eq_false_iff_ne.2 k1
      by_cases k4 : KD = 4
      · have k4b : (KD == 4) = true := by rw [k4]; rfl
        have HZ1 : Hid (Z = true) := by show _ = _; rw [HZ.out, k1b, k4b]; rfl
        clear k1 k4
        go_wp2_with fail
        go_meet
        exact ⟨by rw [HZ1.out], rfl⟩
      · have k4b : (KD == 4) = false := beq_eq_false_iff_ne.2 k4
        have HZ1 : Hid (Z = false) := by show _ = _; rw [HZ.out, k1b, k4b]; rfl
        clear k1 k4
        go_wp2_with fail
        go_meet
        exact ⟨by rw [HZ1.out], rfl⟩
  case rest =>
  obtain ⟨rfl, rfl⟩ := hcut
  clear p0 p1 p2 p3 p4
  have HP10 := hid (HPk.out _ _ HN10.out.1.pk)
  have HTl10 := hid (HTl.out g' cap' _ HN10.out.2)
  have HBt6 := hid (fun W h => HBt.out g' cap' W h)
  obtain ⟨RC6, hRC6⟩ : ∃ C, rvc self g' cap' (rM (cE E n EP) self n EP M) = C := ⟨_, rfl⟩
  have i6 : (Tryz.prog.info? 34).map (·.size) = some RC6.size := by rw [← hRC6]; exact infoRV rfl
  have o6 : RC6.all (·.oneCell') = true := by rw [← hRC6]; exact rvc_one _ _ _ _
  have z6 : (#[.int .i64 0, .slice none 0 0, .int .u64 0] : Array Value).size = RC6.size := by rw [← hRC6]; rfl
  have HVb6 : Hid (∀ W x, RVb W x self g' cap' (rM (cE E n EP) self n EP M) → W.heap[x]? = some (.cells RC6 34 (0, 0))) := fun W x h => by rw [← hRC6]; exact h
  have HVb7 : Hid (∀ W x, W.heap[x]? = some (.cells RC6 34 (0, 0)) → RVb W x self g' cap' (rM (cE E n EP) self n EP M)) := fun W x h => by unfold RVb; rw [hRC6]; exact h
  have HRC6 := hid hRC6
  rw [hRC6] at HTl10 HBt6
  clear hRC6 HTl HBt
  have HV10 := hid (HVb6.out _ _ HN10.out.1.rv)
  obtain ⟨PQ, hPQ⟩ : ∃ C, pkCells ⟨2, self, 0, rE (cE E n EP) self n EP M self, rM (cE E n EP) self n EP M, cK E K n EP p self⟩ = C := ⟨_, rfl⟩
  have hPQs : PQ.size = 261 := by rw [← hPQ]; exact pkCells_size _
  rw [hPQ] at HTl10
  have HPQ := hid hPQ
  clear hPQ
  generalize wc = w10 at *
  go_upto_if 92 with fail
  go_cut [8] (fun c8 wx => Hid (TN w wx self g' cap' (rM (cE E n EP) self n EP M) p (rE (cE E n EP) self n EP M) (cK E K n EP p)) ∧ Hid (OwnP (g' + 1) wx c8 L1))
  case first =>
    cases Z with
    | false =>
      have HL : Hid (L1 = []) := HL1.out
      go_wp2_with fail
      go_meet
      exact ⟨HN10.out, by rw [HL.out]; exact ownp_nil _ _⟩
    | true =>
      have HL : Hid (L1 = [⟨2, self, 0, rE (cE E n EP) self n EP M self, rM (cE E n EP) self n EP M, cK E K n EP p self⟩]) := HL1.out
      go_wp2_with (refine wpList_load_row rfl 34 _ rfl w.heap.size rfl 34 _ (0, 0) _ HV10.out Tryz.underlying34 rfl i6 ?_)
      refine HTl10.out.mono ?_; rintro e w11 ⟨rfl, hb⟩
      have HN11 := hid (HN10.out.call hb)
      have hbx := below_alloc w11 (.cells PQ 53)
      have HPn : PBox (w11.alloc (.cells PQ 53)) w11.heap.size ⟨2, self, 0, rE (cE E n EP) self n EP M self, rM (cE E n EP) self n EP M, cK E K n EP p self⟩ := by
        rw [← HPQ.out]; exact pbox_new w11 _
      obtain ⟨v', W', hr, ho, hbl⟩ := ownp_push (ownp_nil w11.heap.size (w11.alloc (.cells PQ 53))) _ w11.heap.size HPn (by simp) (by simp)
      have HG11 : Hid (g' + 1 ≤ w11.heap.size) := HN11.out.2.lt
      have HN12 := hid (HN11.out.call (hbx.trans hbl))
      have HO12 := hid (ho.mono HG11.out)
      have HR := hid hr
      clear hb hbx HPn hr ho hbl
      go_wp2_with (first | (refine wpList_bslice rfl _ rfl PQ rfl hPQs ?_) | (at_builtin; refine wpList_append_run rfl _ _ 103 rfl _ _ _ _ rfl rfl HR.out ?_))
      go_meet
      exact ⟨HN12.out, by rw [HL.out]; exact HO12.out⟩
  case rest =>
  obtain ⟨HN11, HO11⟩ := hcut
  clear HN10 HV10 HP10 HTl10 HPQ hPQs HL1 HZ
  generalize wc = w11 at *
  have HV11 := hid (HVb6.out _ _ HN11.out.1.rv)
  have HP11 := hid (HPk.out _ _ HN11.out.1.pk)
  go_wp2_with (first | (refine wpList_load_row rfl 34 _ rfl w.heap.size rfl 34 _ (0, 0) _ HV11.out Tryz.underlying34 rfl i6 ?_) | (refine wpList_load_row rfl 53 _ rfl (w.heap.size + 1) rfl 53 _ (0, 0) _ HP11.out Tryz.underlying53 rfl iP ?_))
  refine (HBt6.out _ HN11.out.2).mono ?_; rintro e w12 ⟨rfl, hb⟩
  have HN12 := hid (HN11.out.call hb)
  have HO12 := hid (HO11.out.below hb)
  clear hb HN11 HO11 HV11 HP11
  rcases HL2.out with ⟨hneg, hL⟩ | ⟨o, rfl, ho, hL⟩
  · have HL := hid hL
    clear hL
    have HV12 := hid (HVb6.out _ _ HN12.out.1.rv)
    have HR12 := hid HN12.out.1.res
    have HTe := hid (HVb7.out _ _ (setRow_heap _ _ _ _ _ _ HN12.out.1.res))
    go_wp2_with (first | (refine wpList_load_row rfl 34 _ rfl w.heap.size rfl 34 _ (0, 0) _ HV12.out Tryz.underlying34 rfl i6 ?_) | (refine wpList_store_row rfl 34 _ _ rfl (w.heap.size + 2) RC6 rfl rfl 34 _ HR12.out i6 z6 o6 ?_))
    refine bodyPost_ret (v := .tuple #[.agg (rvc self g' cap' (rM (cE E n EP) self n EP M)), u8]) ?_ rfl ?_
    · exact ret_rv2 rfl rfl rfl HTe.out
    · refine ⟨g', cap', u8, rfl, HN12.out.2.turn (setRow_other _ _ _ _ (by have := HGE.out; omega)), by have := HGE.out; omega, ?_, below_setRow HN12.out.1.bel (by omega) _⟩
      rw [HL.out]
      exact ((HO12.out.setRow (by have := HGE.out; omega) _).mono (by have := HGE.out; omega))
  · have HL := hid hL
    have hoz : (o : Int) < 64 := by omega
    have HOo := hid ho
    clear hL
    obtain ⟨s0, s1, s2⟩ := HN12.out.cells
    have ce := HN12.out.2.ep ho
    have cr := HN12.out.2.cl_range ho
    clear ho
    have hbu := upd_form 3 (self : Int) (o : Int) (rE (cE E n EP) self n EP M o) (rM (cE E n EP) self n EP M) (cK E K n EP p o)
    rw [zeroPk, cellsOf_size] at hbu
    obtain ⟨UP, hUP⟩ : ∃ C, pkCells ⟨3, self, o, rE (cE E n EP) self n EP M o, rM (cE E n EP) self n EP M, cK E K n EP p o⟩ = C := ⟨_, rfl⟩
    have hUPs : UP.size = 261 := by rw [← hUP]; exact pkCells_size _
    have HUP : Hid (∀ W : World, PBox (W.alloc (.cells UP 53)) W.heap.size ⟨3, self, o, rE (cE E n EP) self n EP M o, rM (cE E n EP) self n EP M, cK E K n EP p o⟩) := fun W => by rw [← hUP]; exact pbox_new W _
    have iC : (Tryz.prog.info? 24).map (·.size) = some (cellsOf (cK E K n EP p o)).toList.length := infoCl _
    have hCs : (cellsOf (cK E K n EP p o)).size = 256 := cellsOf_size _
    have hz := zeroPk
    have z0 : (pkCells zeroP).size = 261 := pkCells_size _
    rw [hUP] at hbu
    obtain ⟨CX, hCX⟩ : ∃ C, cellsOf (cK E K n EP p o) = C := ⟨_, rfl⟩
    obtain ⟨Z0, hZ0⟩ : ∃ C, pkCells zeroP = C := ⟨_, rfl⟩
    obtain ⟨EO, hEO⟩ : ∃ x, rE (cE E n EP) self n EP M o = x := ⟨_, rfl⟩
    obtain ⟨MO, hMO⟩ : ∃ x, rM (cE E n EP) self n EP M = x := ⟨_, rfl⟩
    rw [hCX] at hbu iC hCs cr
    rw [hZ0] at hbu hz z0
    rw [hEO] at hbu ce
    rw [hMO] at hbu s2
    clear hUP hCX hZ0 hEO hMO
    have hze : ¬ Z0 = #[] := fun e => by rw [e] at z0; cases z0
    have u24 := Tryz.underlying24
    have HO13a : Hid (OwnP (g' + 1) w12.drew u8 L1) := HO12.out.turn (fun _ _ _ => rfl)
    obtain ⟨v', W', hr, hop, hbl⟩ := ownp_push (HO13a.out.below (below_alloc w12.drew (.cells UP 53))) _ w12.drew.heap.size (HUP.out w12.drew) (by have := HN12.out.2.lt; show g' + 1 ≤ (w12.alloc _).heap.size; rw [World.size_alloc]; omega) HLn.out
    have HN13 := hid ((HN12.out.drew.call (below_alloc w12.drew (.cells UP 53))).fresh hbl HGE.out)
    have HO13 := hid hop
    have HR := hid hr
    have HSa : Hid (Sr w.heap.size self g' cap' MO o EO CX (w12.drew.alloc (.cells UP 53))) := sr_below (n := w12.drew.heap.size) (W := w12.drew) ⟨⟨s0, s1, s2⟩, ce, cr⟩ (below_alloc w12.drew _) HN12.out.1.rv.lt HN12.out.2.lt
    have HSb : Hid (Sr w.heap.size self g' cap' MO o EO CX W') := sr_below HSa.out hbl (by have := HGE.out; omega) (by omega)
    clear hr hop hbl
    go_upto_region 20 with fail
    refine wp_region_noPanic ?_
    refine wp_region_held_drew (S := Sr w.heap.size self g' cap' MO o EO CX) (by kernel_rfl) ⟨⟨s0, s1, s2⟩, ce, cr⟩ (fun hHeld => ?_)
    clear s0 s1 s2 ce cr
    refine wpAnyH_take (i := 0) (oi := { dst := some 103, op := Op.move (Operand.tmp 8), type := 103, pos := "ref.go:139", after := #[], guard := none }) (v := u8) rfl (by kernel_rfl) (by kernel_rfl) (by kernel_rfl) (fun _ _ _ h => h) (Or.inl ⟨by rfl, fun wS hSw => ?_⟩) (by assumption) ?_
    · clear hHeld
      obtain ⟨⟨s0, s1, s2⟩, ce, cr⟩ := hSw
      go_simp
    try simp only [Act.put, List.setIfInBounds_toArray, List.set_cons_zero, List.set_cons_succ]
    refine wpAnyH_take (i := 1) (oi := { dst := some 104, op := Op.fieldAddr 34 (Operand.tmp 2) 0, type := 0, pos := "ref.go:139", after := #[], guard := none }) (v := .pointer (some ⟨w.heap.size, 0, none⟩)) rfl (by kernel_rfl) (by kernel_rfl) (by kernel_rfl) (fun _ _ _ h => h) (Or.inl ⟨by rfl, fun wS hSw => ?_⟩) (by assumption) ?_
    · clear hHeld
      obtain ⟨⟨s0, s1, s2⟩, ce, cr⟩ := hSw
      go_simp
    try simp only [Act.put, List.setIfInBounds_toArray, List.set_cons_zero, List.set_cons_succ]
    refine wpAnyH_take (i := 2) (oi := { dst := some 105, op := Op.load 3 (Operand.tmp 104), type := 3, pos := "ref.go:139", after := #[{ on := 1, ground := Ground.data }], guard := none }) (v := .int .i64 (self : Int)) rfl (by kernel_rfl) (by kernel_rfl) (by kernel_rfl) (fun _ _ _ h => h) (Or.inl ⟨by rfl, fun wS hSw => ?_⟩) (by assumption) ?_
    · clear hHeld
      obtain ⟨⟨s0, s1, s2⟩, ce, cr⟩ := hSw
      go_simp
    try simp only [Act.put, List.setIfInBounds_toArray, List.set_cons_zero, List.set_cons_succ]
    refine wpAnyH_take (i := 3) (oi := { dst := some 106, op := Op.move (Operand.tmp 9), type := 3, pos := "ref.go:139", after := #[], guard := none }) (v := .int .i64 (o : Int)) rfl (by kernel_rfl) (by kernel_rfl) (by kernel_rfl) (fun _ _ _ h => h) (Or.inl ⟨by rfl, fun wS hSw => ?_⟩) (by assumption) ?_
    · clear hHeld
      obtain ⟨⟨s0, s1, s2⟩, ce, cr⟩ := hSw
      go_simp
    try simp only [Act.put, List.setIfInBounds_toArray, List.set_cons_zero, List.set_cons_succ]
    refine wpAnyH_take (i := 4) (oi := { dst := some 107, op := Op.fieldAddr 34 (Operand.tmp 2) 1, type := 0, pos := "ref.go:139", after := #[], guard := none }) (v := .pointer (some ⟨w.heap.size, 1, none⟩)) rfl (by kernel_rfl) (by kernel_rfl) (by kernel_rfl) (fun _ _ _ h => h) (Or.inl ⟨by rfl, fun wS hSw => ?_⟩) (by assumption) ?_
    · clear hHeld
      obtain ⟨⟨s0, s1, s2⟩, ce, cr⟩ := hSw
      go_simp
    try simp only [Act.put, List.setIfInBounds_toArray, List.set_cons_zero, List.set_cons_succ]
    refine wpAnyH_take (i := 5) (oi := { dst := some 108, op := Op.load 32 (Operand.tmp 107), type := 32, pos := "ref.go:139", after := #[{ on := 4, ground := Ground.data }], guard := none }) (v := .slice (some ⟨g', 0, none⟩) 64 cap') rfl (by kernel_rfl) (by kernel_rfl) (by kernel_rfl) (fun _ _ _ h => h) (Or.inl ⟨by rfl, fun wS hSw => ?_⟩) (by assumption) ?_
    · clear hHeld
      obtain ⟨⟨s0, s1, s2⟩, ce, cr⟩ := hSw
      go_simp
    try simp only [Act.put, List.setIfInBounds_toArray, List.set_cons_zero, List.set_cons_succ]
    refine wpAnyH_take (i := 6) (oi := { dst := some 109, op := Op.move (Operand.tmp 9), type := 3, pos := "ref.go:139", after := #[], guard := none }) (v := .int .i64 (o : Int)) rfl (by kernel_rfl) (by kernel_rfl) (by kernel_rfl) (fun _ _ _ h => h) (Or.inl ⟨by rfl, fun wS hSw => ?_⟩) (by assumption) ?_
    · clear hHeld
      obtain ⟨⟨s0, s1, s2⟩, ce, cr⟩ := hSw
      go_simp
    try simp only [Act.put, List.setIfInBounds_toArray, List.set_cons_zero, List.set_cons_succ]
    refine wpAnyH_take (i := 7) (oi := { dst := some 110, op := Op.indexAddr 32 (Operand.tmp 108) (Operand.tmp 109), type := 0, pos := "ref.go:139", after := #[{ on := 5, ground := Ground.data }, { on := 6, ground := Ground.data }], guard := none }) (v := .pointer (some ⟨g', o * 257, none⟩)) rfl (by kernel_rfl) (by kernel_rfl) (by kernel_rfl) (fun _ _ _ h => h) (Or.inl ⟨by rfl, fun wS hSw => ?_⟩) (by assumption) ?_
    · clear hHeld
      obtain ⟨⟨s0, s1, s2⟩, ce, cr⟩ := hSw
      go_simp
    try simp only [Act.put, List.setIfInBounds_toArray, List.set_cons_zero, List.set_cons_succ]
    refine wpAnyH_take (i := 8) (oi := { dst := some 111, op := Op.fieldAddr 79 (Operand.tmp 110) 0, type := 0, pos := "ref.go:139", after := #[{ on := 7, ground := Ground.data }], guard := none }) (v := .pointer (some ⟨g', o * 257, none⟩)) rfl (by kernel_rfl) (by kernel_rfl) (by kernel_rfl) (fun _ _ _ h => h) (Or.inl ⟨by rfl, fun wS hSw => ?_⟩) (by assumption) ?_
    · clear hHeld
      obtain ⟨⟨s0, s1, s2⟩, ce, cr⟩ := hSw
      go_simp
    try simp only [Act.put, List.setIfInBounds_toArray, List.set_cons_zero, List.set_cons_succ]
    refine wpAnyH_take (i := 9) (oi := { dst := some 112, op := Op.load 22 (Operand.tmp 111), type := 22, pos := "ref.go:139", after := #[{ on := 8, ground := Ground.data }], guard := none }) (v := .int .u64 (EO : Int)) rfl (by kernel_rfl) (by kernel_rfl) (by kernel_rfl) (fun _ _ _ h => h) (Or.inl ⟨by rfl, fun wS hSw => ?_⟩) (by assumption) ?_
    · clear hHeld
      obtain ⟨⟨s0, s1, s2⟩, ce, cr⟩ := hSw
      go_simp
    try simp only [Act.put, List.setIfInBounds_toArray, List.set_cons_zero, List.set_cons_succ]
    refine wpAnyH_take (i := 10) (oi := { dst := some 113, op := Op.fieldAddr 34 (Operand.tmp 2) 2, type := 0, pos := "ref.go:139", after := #[], guard := none }) (v := .pointer (some ⟨w.heap.size, 2, none⟩)) rfl (by kernel_rfl) (by kernel_rfl) (by kernel_rfl) (fun _ _ _ h => h) (Or.inl ⟨by rfl, fun wS hSw => ?_⟩) (by assumption) ?_
    · clear hHeld
      obtain ⟨⟨s0, s1, s2⟩, ce, cr⟩ := hSw
      go_simp
    try simp only [Act.put, List.setIfInBounds_toArray, List.set_cons_zero, List.set_cons_succ]
    refine wpAnyH_take (i := 11) (oi := { dst := some 114, op := Op.load 22 (Operand.tmp 113), type := 22, pos := "ref.go:139", after := #[{ on := 10, ground := Ground.data }], guard := none }) (v := .int .u64 (MO : Int)) rfl (by kernel_rfl) (by kernel_rfl) (by kernel_rfl) (fun _ _ _ h => h) (Or.inl ⟨by rfl, fun wS hSw => ?_⟩) (by assumption) ?_
    · clear hHeld
      obtain ⟨⟨s0, s1, s2⟩, ce, cr⟩ := hSw
      go_simp
    try simp only [Act.put, List.setIfInBounds_toArray, List.set_cons_zero, List.set_cons_succ]
    refine wpAnyH_take (i := 12) (oi := { dst := some 115, op := Op.fieldAddr 34 (Operand.tmp 2) 1, type := 0, pos := "ref.go:139", after := #[], guard := none }) (v := .pointer (some ⟨w.heap.size, 1, none⟩)) rfl (by kernel_rfl) (by kernel_rfl) (by kernel_rfl) (fun _ _ _ h => h) (Or.inl ⟨by rfl, fun wS hSw => ?_⟩) (by assumption) ?_
    · clear hHeld
      obtain ⟨⟨s0, s1, s2⟩, ce, cr⟩ := hSw
      go_simp
    try simp only [Act.put, List.setIfInBounds_toArray, List.set_cons_zero, List.set_cons_succ]
    refine wpAnyH_take (i := 13) (oi := { dst := some 116, op := Op.load 32 (Operand.tmp 115), type := 32, pos := "ref.go:139", after := #[{ on := 12, ground := Ground.data }], guard := none }) (v := .slice (some ⟨g', 0, none⟩) 64 cap') rfl (by kernel_rfl) (by kernel_rfl) (by kernel_rfl) (fun _ _ _ h => h) (Or.inl ⟨by rfl, fun wS hSw => ?_⟩) (by assumption) ?_
    · clear hHeld
      obtain ⟨⟨s0, s1, s2⟩, ce, cr⟩ := hSw
      go_simp
    try simp only [Act.put, List.setIfInBounds_toArray, List.set_cons_zero, List.set_cons_succ]
    refine wpAnyH_take (i := 14) (oi := { dst := some 117, op := Op.move (Operand.tmp 9), type := 3, pos := "ref.go:139", after := #[], guard := none }) (v := .int .i64 (o : Int)) rfl (by kernel_rfl) (by kernel_rfl) (by kernel_rfl) (fun _ _ _ h => h) (Or.inl ⟨by rfl, fun wS hSw => ?_⟩) (by assumption) ?_
    · clear hHeld
      obtain ⟨⟨s0, s1, s2⟩, ce, cr⟩ := hSw
      go_simp
    try simp only [Act.put, List.setIfInBounds_toArray, List.set_cons_zero, List.set_cons_succ]
    refine wpAnyH_take (i := 15) (oi := { dst := some 118, op := Op.indexAddr 32 (Operand.tmp 116) (Operand.tmp 117), type := 0, pos := "ref.go:139", after := #[{ on := 13, ground := Ground.data }, { on := 14, ground := Ground.data }], guard := none }) (v := .pointer (some ⟨g', o * 257, none⟩)) rfl (by kernel_rfl) (by kernel_rfl) (by kernel_rfl) (fun _ _ _ h => h) (Or.inl ⟨by rfl, fun wS hSw => ?_⟩) (by assumption) ?_
    · clear hHeld
      obtain ⟨⟨s0, s1, s2⟩, ce, cr⟩ := hSw
      go_simp
    try simp only [Act.put, List.setIfInBounds_toArray, List.set_cons_zero, List.set_cons_succ]
    refine wpAnyH_take (i := 16) (oi := { dst := some 119, op := Op.fieldAddr 79 (Operand.tmp 118) 1, type := 0, pos := "ref.go:139", after := #[{ on := 15, ground := Ground.data }], guard := none }) (v := .pointer (some ⟨g', o * 257 + 1, none⟩)) rfl (by kernel_rfl) (by kernel_rfl) (by kernel_rfl) (fun _ _ _ h => h) (Or.inl ⟨by rfl, fun wS hSw => ?_⟩) (by assumption) ?_
    · clear hHeld
      obtain ⟨⟨s0, s1, s2⟩, ce, cr⟩ := hSw
      go_simp
    try simp only [Act.put, List.setIfInBounds_toArray, List.set_cons_zero, List.set_cons_succ]
    refine wpAnyH_take (i := 17) (oi := { dst := some 120, op := Op.load 24 (Operand.tmp 119), type := 24, pos := "ref.go:139", after := #[{ on := 16, ground := Ground.data }], guard := none }) (v := .agg CX) rfl (by kernel_rfl) (by kernel_rfl) (by kernel_rfl) (fun _ _ _ h => h) (yieldsIf_load_arr Array.toArray_toList (by rfl) _ _ rfl _ _ rfl (fun _ h => h.2.2) u24 rfl iC) (by assumption) ?_
    try simp only [Act.put, List.setIfInBounds_toArray, List.set_cons_zero, List.set_cons_succ]
    refine wpAnyH_take (i := 18) (oi := { dst := some 121, op := Op.build 53 #[(0, Operand.const (Value.int IntKind.i64 3)), (1, Operand.tmp 105), (2, Operand.tmp 106), (3, Operand.tmp 112), (4, Operand.tmp 114), (5, Operand.tmp 120)], type := 53, pos := "ref.go:139", after := #[{ on := 2, ground := Ground.data }, { on := 3, ground := Ground.data }, { on := 9, ground := Ground.data }, { on := 11, ground := Ground.data }, { on := 17, ground := Ground.data }], guard := none }) (v := .agg UP) rfl (by kernel_rfl) (by kernel_rfl) (by kernel_rfl) (fun _ _ _ h => h) (Or.inl ⟨by rfl, fun wS hSw => ?_⟩) (by assumption) ?_
    · clear hHeld
      clear hSw
      go_simp
    try simp only [Act.put, List.setIfInBounds_toArray, List.set_cons_zero, List.set_cons_succ]
    refine wpAnyH_ready (rs := [19]) (by kernel_rfl) (by simp) ?_
    refine AllReadyH.cons (o := { dst := some 122, op := Op.buildSlice 103 1 #[(0, Operand.tmp 121)], type := 103, pos := "ref.go:139", after := #[{ on := 18, ground := Ground.data }], guard := none }) rfl (fun K hK => ?_) AllReadyH.nil
    rw [if_pos (by rfl)]
    refine wp_bslice _ rfl UP rfl hUPs ?_
    refine hK.out _ _ HSa.out (fun hHeld => ?_)
    clear hK K
    try simp only [Act.put, List.setIfInBounds_toArray, List.set_cons_zero, List.set_cons_succ]
    refine wpAnyH_ready (rs := [20]) (by kernel_rfl) (by simp) ?_
    refine AllReadyH.cons (o := { dst := some 123, op := Op.call { callee := Callee.builtin Builtin.append, args := #[Operand.tmp 103, Operand.tmp 122], argTypes := #[103, 103] }, type := 103, pos := "ref.go:139", after := #[{ on := 0, ground := Ground.data }, { on := 19, ground := Ground.data }], guard := none }) rfl (fun K hK => ?_) AllReadyH.nil
    rw [if_pos (by rfl)]
    refine wp_app _ _ 103 rfl _ _ rfl rfl HR.out ?_
    refine hK.out _ _ HSb.out (fun hHeld => ?_)
    clear hK K
    try simp only [Act.put, List.setIfInBounds_toArray, List.set_cons_zero, List.set_cons_succ]
    refine wpAnyH_take (i := 21) (oi := { dst := some 8, op := Op.assign (Operand.tmp 123), type := 103, pos := "ref.go:139", after := #[{ on := 20, ground := Ground.data }, { on := 20, ground := Ground.chain }, { on := 0, ground := Ground.phase }, { on := 1, ground := Ground.phase }, { on := 2, ground := Ground.phase }, { on := 3, ground := Ground.phase }, { on := 4, ground := Ground.phase }, { on := 5, ground := Ground.phase }, { on := 6, ground := Ground.phase }, { on := 7, ground := Ground.phase }, { on := 8, ground := Ground.phase }, { on := 9, ground := Ground.phase }, { on := 10, ground := Ground.phase }, { on := 11, ground := Ground.phase }, { on := 12, ground := Ground.phase }, { on := 13, ground := Ground.phase }, { on := 14, ground := Ground.phase }, { on := 15, ground := Ground.phase }, { on := 16, ground := Ground.phase }, { on := 17, ground := Ground.phase }, { on := 18, ground := Ground.phase }, { on := 19, ground := Ground.phase }, { on := 20, ground := Ground.phase }], guard := none }) (v := v') rfl (by kernel_rfl) (by kernel_rfl) (by kernel_rfl) (fun _ _ _ h => h) (Or.inl ⟨by rfl, fun wS hSw => ?_⟩) (by assumption) ?_
    · clear hHeld
      clear hSw
      go_simp
    try simp only [Act.put, List.setIfInBounds_toArray, List.set_cons_zero, List.set_cons_succ]
    refine wpAnyH_done (by kernel_rfl) ?_ _
    refine NoPanic.normal ?_
    clear hHeld
    have HV13 := hid (HVb6.out _ _ HN13.out.1.rv)
    have HR13 := hid HN13.out.1.res
    have HTe := hid (HVb7.out _ _ (setRow_heap _ _ _ _ _ _ HN13.out.1.res))
    go_wp2_with (first | (refine wpList_load_row rfl 34 _ rfl w.heap.size rfl 34 _ (0, 0) _ HV13.out Tryz.underlying34 rfl i6 ?_) | (refine wpList_store_row rfl 34 _ _ rfl (w.heap.size + 2) RC6 rfl rfl 34 _ HR13.out i6 z6 o6 ?_))
    refine bodyPost_ret (v := .tuple #[.agg (rvc self g' cap' (rM (cE E n EP) self n EP M)), v']) ?_ rfl ?_
    · exact ret_rv2 rfl rfl rfl HTe.out
    · refine ⟨g', cap', v', rfl, HN13.out.2.turn (setRow_other _ _ _ _ (by have := HGE.out; omega)), by have := HGE.out; omega, ?_, below_setRow HN13.out.1.bel (by omega) _⟩
      rw [HL.out]
      exact ((HO13.out.setRow (by have := HGE.out; omega) _).mono (by have := HGE.out; omega))

end Go.Proofs.YtbfllifgmlkndaaGreatDoor
