/- Whatever the beginning and both scripts: what is done to a clone is not seen in the view, nor the other way round (ViewApart, its first form; no condition). -/
import Derived.Test.YtdicjnkbmlamgaaM39
import Derived.Test.YtdicjnkbmlamgaaRows
import Derived.ProofKit
import Derived.OpenShut
import Derived.ShutString
import Derived.ChangeMaps5
import Derived.ChangeOld
import Derived.RowKit
import Derived.Deep.DeepHandedRow
import Derived.SizedLaws
import Derived.Test.YtdicjnkbmlamgaaM03
import Derived.Test.YtdicjnkbmlamgaaM38
namespace Go.Proofs.Ytdicjnkbmlamgaa
open Go.RowKit
open Slot

/-- apart, on its way: a view and the document's, as they were; a clone and the document's, as they have become -/
structure Ap (w wr : World) (b rs g0 cap0 : Nat) (v : Vw) (cb qs g cap : Nat) (u : Vw) : Prop where
  vb : VB wr b v
  rv : RVb wr rs v.self g0 cap0 v.cur
  nd : Nd wr g0 v.ep v.cl
  cv : VB wr cb u
  qv : RVb wr qs u.self g cap u.cur
  qn : Nd wr g u.ep u.cl
  bel : Below w.heap.size w wr
  ne : b ≠ cb
  nq : rs ≠ qs
  hcb : w.heap.size ≤ cb
  hqs : w.heap.size ≤ qs
theorem Ap.call {w wr w' : World} {b rs g0 cap0 : Nat} {v : Vw} {cb qs g cap : Nat} {u : Vw} (h : Ap w wr b rs g0 cap0 v cb qs g cap u) (hb : Below wr.heap.size wr w') : Ap w w' b rs g0 cap0 v cb qs g cap u :=
  ⟨h.vb.below hb h.vb.lt, h.rv.below hb h.rv.lt, h.nd.below hb h.nd.lt, h.cv.below hb h.cv.lt, h.qv.below hb h.qv.lt, h.qn.below hb h.qn.lt, h.bel.trans (hb.mono h.bel.size), h.ne, h.nq, h.hcb, h.hqs⟩
theorem Ap.step {w wr wd wp : World} {b rs g0 cap0 : Nat} {v : Vw} {cb qs g cap g' cap' : Nat} {u t : Vw} (h : Ap w wr b rs g0 cap0 v cb qs g cap u) (hbd : Below wr.heap.size wr wd) (hnd : Nd wd g' t.ep t.cl)
    (o : Only cb (wd.setRow qs (rvc t.self g' cap' t.cur)) wp) (hv : VB wp cb t) : Ap w wp b rs g0 cap0 v cb qs g' cap' t := by
  have h1 := h.call hbd
  have n1 : qs ≠ cb := row_vb_ne h1.qv h1.cv
  have n2 : g' ≠ cb := nd_vb_ne hnd h1.cv
  have n3 : qs ≠ g' := row_nd_ne h1.qv hnd
  have n4 : rs ≠ cb := row_vb_ne h1.rv h1.cv
  have n5 : g0 ≠ cb := nd_vb_ne h1.nd h1.cv
  have n6 : qs ≠ g0 := row_nd_ne h1.qv h1.nd
  have n7 : qs ≠ b := row_vb_ne h1.qv h1.vb
  have key : ∀ k, k < wd.heap.size → k ≠ cb → k ≠ qs → wp.heap[k]? = wd.heap[k]? := fun k hk e1 e2 => (o.block _ (by simpa using hk) e1).trans (setRow_other _ _ _ _ e2)
  refine ⟨h1.vb.turn (key _ h1.vb.lt h.ne (fun e => n7 e.symm)), (key _ h1.rv.lt n4 h.nq).trans h1.rv, h1.nd.turn (key _ h1.nd.lt n5 (fun e => n6 e.symm)), hv, (o.block _ (by simpa using h1.qv.lt) n1).trans (setRow_heap _ _ _ _ _ _ h1.qv), hnd.turn (key _ hnd.lt n2 (fun e => n3 e.symm)), ?_, h.ne, h.nq, h.hcb, h.hqs⟩
  exact (below_setRow h1.bel h.hqs _).trans (o.below h.hcb (by simpa using h1.bel.size))
set_option maxHeartbeats 8000000 in
set_option maxRecDepth 100000 in
theorem apart_any (self : Int) (S : Nat → Bool) (e : Nat) (a : Option Addr) (L : List OpV) (n c : Nat) (a' : Option Addr) (M : List OpV) (m c' : Nat) (w : World) (hn : L.length = n) (hL : OpR w a L) (hm : n ≤ 9223372036854775807) (hn' : M.length = m) (hM : OpR w a' M) (hm' : m ≤ 9223372036854775807) :
    Calls Try.prog 7 #[.agg (bgC self S e), .slice a n c, .slice a' m c'] w fun e w' => e = .returned (.bool true) ∧ Below w.heap.size w w' := by
  have HW1 := hid (below_alloc w (.cells (bgC self S e) 26))
  have HB1 : Hid ((w.alloc (.cells (bgC self S e) 26)).heap[w.heap.size]? = some (.cells (bgC self S e) 26 (0, 0))) := bg_new w self S e
  have iB := infoBg self S e
  have HBe := hid (begun_any self e n c S a L _ hn (hL.below HW1.out (Nat.le_refl _)) hm)
  have HAl := hid (fun W => alive_any W)
  have HFw := hid (fun W h => few_any a' M m c' W hn' h hm')
  have HOp := hid hM
  have HN := hid hn'
  obtain ⟨BC, hBC⟩ : ∃ C, bgC self S e = C := ⟨_, rfl⟩
  rw [hBC] at HW1 HB1 HBe iB ⊢
  clear hBC hn hL hm hn' hM hm'
  go_enter Try.func7, Try.ntmps7
  go_upto_region 1 with fail
  generalize w.alloc (.cells BC 26) = w1 at *
  go_wp2_with (refine wpList_load_row rfl 26 _ rfl w.heap.size rfl 26 _ (0, 0) _ HB1.out Try.underlying26 rfl iB ?_)
  refine HBe.out.mono ?_; rintro r w2 ⟨x, RC, rfl, hs, ho, hb, hx⟩
  have HW2 := hid (HW1.out.trans (hb.mono HW1.out.size))
  obtain ⟨b3, h3, hz, iR, hb3⟩ := put_row HW2.out hs
  have HW3 := hid b3
  have HR3 := hid h3
  have HB3 := hid hb3
  have HX := hid hx
  have HO := hid ho
  have HSz := hid hs
  have HZ := hid (heap_alloc_new w2 (.cells #[.int .i64 0, .slice none 0 0, .int .u64 0] 31))
  clear hb b3 h3 hb3 hx ho hs HBe HB1
  go_upto_region 2 with (refine wpList_store_row rfl 31 _ _ rfl w2.heap.size RC rfl rfl 31 _ HZ.out iR hz HO.out ?_)
  clear HZ
  generalize (w2.alloc (.cells #[.int .i64 0, .slice none 0 0, .int .u64 0] 31)).setRow w2.heap.size RC = w3 at *
  obtain ⟨rs, hrs⟩ : ∃ x, w2.heap.size = x := ⟨_, rfl⟩
  rw [hrs] at HB3 HR3 ⊢
  rcases HX.out with rfl | ⟨b, v, g0, cap0, rfl, hRC, hV, hN, hOk, hbw⟩
  · go_wp2_with fail
    refine (HAl.out _).mono ?_; rintro r w4 ⟨rfl, hb4⟩
    have HW4 := hid (HW3.out.trans (hb4.mono HW3.out.size))
    clear hb4
    go_wp2_with fail
    go_ret
    exact ⟨rfl, HW4.out⟩
  · have HV3 := hid (hV.below HB3.out (by have := hV.lt; omega))
    have HN3 := hid (hN.below HB3.out (by have := hN.lt; omega))
    have HRCe := hid hRC
    have HOk := hid hOk
    have HRw : Hid (w.heap.size ≤ rs) := by have := HW2.out.size; show _ ≤ _; omega
    have HF3 := hid (HFw.out w3 (HOp.out.below HW3.out (Nat.le_refl _)))
    clear hRC hV hN hOk hbw HX hrs HFw
    go_wp2_with fail
    refine HF3.out.mono ?_; rintro r w4 ⟨B, rfl, hB, hb4⟩
    have HV4 := hid (HV3.out.below hb4 HV3.out.lt)
    have HN4 := hid (HN3.out.below hb4 HN3.out.lt)
    have HR4 := hid ((hb4.block _ (Array.getElem?_eq_some_iff.1 HR3.out).1).trans HR3.out)
    have HW4 := hid (HW3.out.trans (hb4.mono HW3.out.size))
    have HBB := hid hB
    clear hB hb4 HV3 HN3 HR3 HW3 HF3
    cases B with
    | false =>
      go_wp2_with fail
      refine (HAl.out _).mono ?_; rintro r w5 ⟨rfl, hb5⟩
      have HW5 := hid (HW4.out.trans (hb5.mono HW4.out.size))
      clear hb5
      go_wp2_with fail
      go_ret
      exact ⟨rfl, HW5.out⟩
    | true =>
      have HM40 : Hid (m ≤ 40) := HBB.out rfl
      have hmz : (m : Int) ≤ 40 := by have := HM40.out; omega
      have HCl := hid (clone_any b v w4 HV4.out)
      clear HBB
      go_wp2_with fail
      refine HCl.out.mono ?_; rintro r w5 ⟨rfl, hvc, hb5⟩
      have HV5 := hid (HV4.out.below hb5 HV4.out.lt)
      have HN5 := hid (HN4.out.below hb5 HN4.out.lt)
      have HR5 := hid ((hb5.block _ (Array.getElem?_eq_some_iff.1 HR4.out).1).trans HR4.out)
      have HW5 := hid (HW4.out.trans (hb5.mono HW4.out.size))
      have HVc := hid hvc
      have HCw : Hid (w.heap.size ≤ w4.heap.size ∧ b ≠ w4.heap.size) := by
        have := HV4.out.lt
        have := HW4.out.size
        show _ ∧ _
        omega
      obtain ⟨cb, hcb⟩ : ∃ x, w4.heap.size = x := ⟨_, rfl⟩
      rw [hcb] at HVc HCw ⊢
      clear hvc hb5 hcb HCl HV4 HN4 HR4 HW4
      have HZ6 := hid (heap_alloc_new w5 (.cells #[.int .i64 0, .slice none 0 0, .int .u64 0] 31))
      have HA6 : Hid (Ap w ((w5.alloc (.cells #[.int .i64 0, .slice none 0 0, .int .u64 0] 31)).setRow w5.heap.size RC) b rs g0 cap0 v cb w5.heap.size g0 cap0 v) := by
        have hb6 := below_setRow (g := w5.heap.size) (below_alloc w5 (.cells #[.int .i64 0, .slice none 0 0, .int .u64 0] 31)) (Nat.le_refl _) RC
        have hq := setRow_heap _ _ _ RC _ _ HZ6.out
        have hr := (hb6.block _ (Array.getElem?_eq_some_iff.1 HR5.out).1).trans HR5.out
        rw [HRCe.out] at hq hr hb6
        rw [HRCe.out]
        refine ⟨HV5.out.below hb6 HV5.out.lt, hr, HN5.out.below hb6 HN5.out.lt, HVc.out.below hb6 HVc.out.lt, hq, HN5.out.below hb6 HN5.out.lt, HW5.out.trans (hb6.mono HW5.out.size), HCw.out.2, ?_, HCw.out.1, HW5.out.size⟩
        have := (Array.getElem?_eq_some_iff.1 HR5.out).1
        omega
      go_upto_region 8 with (first | (refine wpList_load_row rfl 31 _ rfl rs rfl 31 _ (0, 0) _ HR5.out Try.underlying31 rfl iR ?_) | (refine wpList_store_row rfl 31 _ _ rfl w5.heap.size RC rfl rfl 31 _ HZ6.out iR hz HO.out ?_))
      generalize (w5.alloc (.cells #[.int .i64 0, .slice none 0 0, .int .u64 0] 31)).setRow w5.heap.size RC = w6 at *
      generalize w5.heap.size = qs at *
      clear HZ6 HV5 HN5 HR5 HW5 HVc HCw HRCe iR hz HO HSz
      go_wp2_with fail
      go_loopw [48] (fun c48 wr => ∃ (k : Nat) (u : Vw) (g cap : Nat), c48 = .int .i64 (k : Int) ∧ k ≤ m ∧ Hid (u.Ok (40 + k)) ∧ Hid (Ap w wr b rs g0 cap0 v cb qs g cap u)) (fun i _ => m - (intOf i).toNat)
      case atStart => exact ⟨0, v, g0, cap0, rfl, Nat.zero_le _, HOk.out, HA6.out⟩
      case round =>
        clear HA6
        obtain ⟨k, u, g, cap, rfl, hk, HOu, HA⟩ := hrel
        by_cases hlt : k < m
        · have hkz : (k : Int) < (m : Int) := by omega
          have hkL : k < M.length := by have := HN.out; omega
          obtain ⟨sb, so, rfl, hbl, h1⟩ := HOp.out (fun e => by rw [e] at hkL; exact absurd hkL (Nat.not_lt_zero _))
          obtain ⟨op, hop⟩ : ∃ op, M[k] = op := ⟨_, rfl⟩
          have g1 := h1 k hkL
          rw [hop] at g1
          have HGr : Hid (wr.rangeAt sb (so + k * 265) (opCells op).toList) := fun j v hv => by
            rw [HA.out.bel.cell (p := ⟨sb, so + k * 265 + j, none⟩) hbl]; exact g1 j v hv
          have iO := infoOl op
          have iO2 := infoOp op
          have oO := opCells_one op
          have hta : (opCells op).toList.toArray = opCells op := Array.toArray_toList
          clear h1 g1 hop hkL
          have HZ := hid (heap_alloc_new wr (.cells Try.zeroCells46 46))
          have zs : Try.zeroCells46.size = (opCells op).size := by rw [opCells_size]; exact Try.zeroCells46_size
          have HBx : Hid (((wr.alloc (.cells Try.zeroCells46 46)).setRow wr.heap.size (opCells op)).heap[wr.heap.size]? = some (.cells (opCells op) 46 (0, 0))) := setRow_heap _ _ _ _ _ _ HZ.out
          have HA4 := hid (HA.out.call (below_setRow (g := wr.heap.size) (below_alloc wr (.cells Try.zeroCells46 46)) (Nat.le_refl _) (opCells op)))
          have HOb : Hid (qs < wr.heap.size) := HA.out.qv.lt
          have HDo := hid (fun W g cap h => rdo_any u.self g cap u.cur u op W rfl HOu.out.self rfl (by have := HOu.out.cur; have hb : big = 4611686018427387904 := rfl; omega) HOu.out.own h)
          have HPd := hid (fun W h => pdo_any cb u op W h (HOu.out.mono (by have := HM40.out; omega)))
          obtain ⟨OC, hOC⟩ : ∃ C, opCells op = C := ⟨_, rfl⟩
          rw [hOC] at HGr iO iO2 oO hta zs HBx HA4 HDo HPd
          clear hOC
          go_upto_region 11 with (first | (refine wpList_load_mid rfl 46 _ rfl sb (so + k * 265) rfl _ _ HGr.out Try.underlying46 rfl iO ?_; rw [hta]) | (refine wpList_store_row rfl 46 _ _ rfl wr.heap.size OC rfl rfl 46 _ HZ.out iO2 zs oO ?_))
          generalize (wr.alloc (.cells Try.zeroCells46 46)).setRow wr.heap.size OC = w4 at *
          generalize wr.heap.size = ob at *
          clear HZ HGr iO oO hta zs HA
          have HRw4 := hid HA4.out.qv
          have HDo4 := hid (HDo.out w4 g cap HA4.out.qn)
          obtain ⟨RC, hRC⟩ : ∃ C, rvc u.self g cap u.cur = C := ⟨_, rfl⟩
          have iR : (Try.prog.info? 31).map (·.size) = some RC.size := by rw [← hRC]; exact infoRV rfl
          have HRs : Hid (RC.size = 3) := by rw [← hRC]; rfl
          have HRw5 : Hid (w4.heap[qs]? = some (.cells RC 31 (0, 0))) := by rw [← hRC]; exact HRw4.out
          rw [hRC] at HDo4
          clear hRC HDo HRw4
          go_wp2_with (first | (refine wpList_load_row rfl 31 _ rfl qs rfl 31 _ (0, 0) _ HRw5.out Try.underlying31 rfl iR ?_) | (refine wpList_load_row rfl 46 _ rfl ob rfl 46 _ (0, 0) _ HBx.out Try.underlying46 rfl iO2 ?_))
          refine HDo4.out.mono ?_; rintro r w5 ⟨g', cap', A, rfl, hnd, hglt, hown, hbl5⟩
          obtain ⟨x1, c1, rfl, -, -⟩ := hown.shape
          have HOw := hid hown
          have HB5 := hid hbl5
          have HA5 := hid (HA4.out.call hbl5)
          have HNd := hid hnd
          have hlw : ob < w4.heap.size := (Array.getElem?_eq_some_iff.1 HBx.out).1
          obtain ⟨R2, hR2⟩ : ∃ C, rvc u.self g' cap' (doV u op).cur = C := ⟨_, rfl⟩
          have i2 : (Try.prog.info? 31).map (·.size) = some R2.size := by rw [← hR2]; exact infoRV rfl
          have o2 : R2.all (·.oneCell') = true := by rw [← hR2]; exact rvc_one _ _ _ _
          have z2 : (#[.int .i64 0, .slice none 0 0, .int .u64 0] : Array Value).size = R2.size := by rw [← hR2]; rfl
          have z3 : RC.size = R2.size := by rw [← hR2, HRs.out]; rfl
          rw [hR2]
          have HR2 : Hid (R2 = rvc (doV u op).self g' cap' (doV u op).cur) := by show _ = _; rw [doV_self, hR2]
          have HZ6 := hid (heap_alloc_new w5 (.cells #[.int .i64 0, .slice none 0 0, .int .u64 0] 31))
          have HA6 := hid (setRow_heap _ _ _ R2 _ _ HZ6.out)
          have hb6 := below_alloc w5 (.cells #[.int .i64 0, .slice none 0 0, .int .u64 0] 31)
          have HB6 := hid (below_setRow (g := w5.heap.size) hb6 (Nat.le_refl _) R2)
          have HRb6 : Hid (((w5.alloc (.cells #[.int .i64 0, .slice none 0 0, .int .u64 0] 31)).setRow w5.heap.size R2).heap[qs]? = some (.cells RC 31 (0, 0))) :=
            (HB6.out.block _ HA5.out.qv.lt).trans ((HB5.out.block _ HA4.out.qv.lt).trans HRw5.out)
          have HOx6 : Hid ((((w5.alloc (.cells #[.int .i64 0, .slice none 0 0, .int .u64 0] 31)).setRow w5.heap.size R2).setRow qs R2).heap[ob]? = some (.cells OC 46 (0, 0))) :=
            (setRow_other _ _ _ _ (by have := HOb.out; omega)).trans ((HB6.out.block _ (by have := hbl5.size; omega)).trans ((hbl5.block _ hlw).trans HBx.out))
          have HVw : Hid (VB (((w5.alloc (.cells #[.int .i64 0, .slice none 0 0, .int .u64 0] 31)).setRow w5.heap.size R2).setRow qs R2) cb u) :=
            (HA5.out.call HB6.out).cv.turn (setRow_other _ _ _ _ (fun e => row_vb_ne HA5.out.qv HA5.out.cv e.symm))
          clear hown hbl5 hnd hglt hlw hR2 hb6 HDo4
          go_upto_region 13 with (first | (refine wpList_store_row rfl 31 _ _ rfl w5.heap.size R2 rfl rfl 31 _ HZ6.out i2 z2 o2 ?_) | (refine wpList_load_row rfl 31 _ rfl w5.heap.size rfl 31 _ (0, 0) _ HA6.out Try.underlying31 rfl i2 ?_) | (refine wpList_store_row rfl 31 _ _ rfl qs R2 rfl rfl 31 _ HRb6.out i2 z3 o2 ?_))
          have HPd7 := hid (HPd.out _ HVw.out)
          generalize hw6 : (w5.alloc (.cells #[.int .i64 0, .slice none 0 0, .int .u64 0] 31)).setRow w5.heap.size R2 = w6 at *
          have HW6 := hid hw6
          clear hw6 HZ6 HA6 HRb6
          go_wp2_with (refine wpList_load_row rfl 46 _ rfl ob rfl 46 _ (0, 0) _ HOx6.out Try.underlying46 rfl iO2 ?_)
          refine HPd7.out.mono ?_; rintro r w8 ⟨A2, rfl, hown2, hv8, hon⟩
          obtain ⟨x2, c2, rfl, -, hpk2⟩ := hown2.shape
          have hOw8 : OwnP w4.heap.size w8 (.slice x1 (doA u op).length c1) (doA u op) := HOw.out.turn (fun k' h1 h2 => by
            have n1 : k' < w6.heap.size := Nat.lt_of_lt_of_le h2 HB6.out.size
            refine (hon.block k' (by simpa using n1) ?_).trans ((setRow_other _ _ _ _ ?_).trans (HB6.out.block _ h2))
            · intro e; have := HA4.out.cv.lt; omega
            · intro e; have := HA4.out.qv.lt; omega)
          obtain ⟨x3, c3, hx3, -, hpk3⟩ := hOw8.shape
          injection hx3 with hxa _ hxc
          subst hxa
          have HSm := hid (same_eq x2 x1 (doA u op) (doA u op) (doA u op).length c2 c1 w8 rfl rfl hpk2 hpk3 (by have := doA_len u op; omega))
          rw [sameL_self] at HSm
          have HA8 : Hid (Ap w w8 b rs g0 cap0 v cb qs g' cap' (doV u op)) := by
            have hon' := hon
            rw [HR2.out] at hon'
            exact HA4.out.step (HB5.out.trans (HB6.out.mono HB5.out.size)) (HNd.out.below HB6.out HNd.out.lt) hon' hv8
          obtain ⟨LN, hLN⟩ : ∃ x, (doA u op).length = x := ⟨_, rfl⟩
          rw [hLN] at HSm ⊢
          obtain ⟨CE, hCE⟩ : ∃ x, doE op = x := ⟨_, rfl⟩
          rw [hCE]
          have hce : (CE != CE) = false := by simp
          have HOk2 := hid (do_ok (o := op) HOu.out)
          clear hown2 hv8 hon hOw8 hpk2 hpk3 hLN hCE hxc HPd7 HOx6 HVw HW6 HB6 HNd HR2 HOw HB5 HA5 z2 z3 o2 i2
          go_wp2_with fail
          refine HSm.out.mono ?_; rintro r w9 ⟨rfl, hb9⟩
          have HA9 := hid (HA8.out.call hb9)
          clear hb9
          go_wp2_with fail
          go_roundw
          case rel => exact ⟨k + 1, doV u op, g', cap', by go_num, by omega, HOk2.out, HA9.out⟩
          case measure => simp [intOf]; omega
        · obtain rfl : k = m := by omega
          go_wp2_with fail
          refine (HAl.out _).mono ?_; rintro r w4 ⟨rfl, hb4⟩
          have HA4 := hid (HA.out.call hb4)
          have HS4 := hid (stands_any b g0 cap0 v w4 HA4.out.vb HA4.out.nd HOk.out.self)
          have HR4 := hid HA4.out.rv
          obtain ⟨RC, hRC⟩ : ∃ C, rvc v.self g0 cap0 v.cur = C := ⟨_, rfl⟩
          have iR : (Try.prog.info? 31).map (·.size) = some RC.size := by rw [← hRC]; exact infoRV rfl
          have HR4b : Hid (w4.heap[rs]? = some (.cells RC 31 (0, 0))) := by rw [← hRC]; exact HR4.out
          rw [hRC] at HS4
          clear hb4 hRC HR4 HA
          go_wp2_with (refine wpList_load_want rfl 31 _ rfl rs rfl 31 _ (0, 0) _ HR4b.out Try.underlying31 rfl iR ?_)
          refine HS4.out.mono ?_; rintro r w5 ⟨rfl, hb5⟩
          have HA5 := hid (HA4.out.call hb5)
          have HS5 := hid (stands_any cb g cap u w5 HA5.out.cv HA5.out.qn HOu.out.self)
          have HR5 := hid HA5.out.qv
          obtain ⟨R2, hR2⟩ : ∃ C, rvc u.self g cap u.cur = C := ⟨_, rfl⟩
          have iR2 : (Try.prog.info? 31).map (·.size) = some R2.size := by rw [← hR2]; exact infoRV rfl
          have HR5b : Hid (w5.heap[qs]? = some (.cells R2 31 (0, 0))) := by rw [← hR2]; exact HR5.out
          rw [hR2] at HS5
          clear hb5 hR2 HR5 HA4 HR4b HS4
          go_wp2_with (refine wpList_load_want rfl 31 _ rfl qs rfl 31 _ (0, 0) _ HR5b.out Try.underlying31 rfl iR2 ?_)
          refine HS5.out.mono ?_; rintro r w6 ⟨rfl, hb6⟩
          have HW6 := hid (HA5.out.bel.trans (hb6.mono HA5.out.bel.size))
          clear hb6
          go_wp2_with fail
          go_ret
          exact ⟨rfl, HW6.out⟩

end Go.Proofs.Ytdicjnkbmlamgaa

namespace Go.Proofs.Ytdicjnkbmlamgaa.viewApart
open Go.ChangeShapes Go.WideShapes Go.ChangeAt Go.RowKit
open Go.ChangeMaps (open_string shut_string)


theorem own : ownKnob Try.prog.godebug = none := by kernel_rfl
theorem laidOut : laidOutB Try.prog = true := by kernel_rfl
set_option maxRecDepth 100000 in
theorem contract (H : Type) (enc : TypeId × Value → H) (W : World) (base : Nat) (args : Array Value) (ds gs : List (DataW H)) (before : List MemPlace)
    (hval : ∀ (j : Nat) t v, Try.f7.params[j]? = some t → args[j]? = some v → Value.okWide Try.prog W .any base t v)
    (hW : DataW.Whole enc Try.prog Try.f7.params.toList Rows.viewApartSpec.vars false W args.toList ds gs before) (hsz0 : (DataW.weightsEach Try.prog (Try.f7.params.toList ++ Rows.viewApartSpec.plain.varTypes Try.prog) (ds ++ gs)).all (· ≤ reachBytes) = true) (_hL : laidMetH Try.prog listed W) :
    Calls Try.prog 7 args W fun e W' => ∃ v, e = .returned v ∧ Rows.viewApartSpec.post enc Try.prog Try.f7 false true false false W args v W' := by
  have hW' := hW
  obtain ⟨p, q, hA0, hV, rfl, hfz, hnd⟩ := hW
  have hA : DataW.TrodAll enc Try.prog W 0 (fun _ => true) true Try.f7.params.toList args.toList ds p := hA0
  have hsz : (DataW.weightsEach Try.prog (Try.f7.params.toList ++ Rows.viewApartSpec.plain.varTypes Try.prog) (ds ++ gs)).all (· ≤ reachBytes) = true := hsz0
  clear hsz0
  rw [Try.params7] at hA hval hsz
  obtain ⟨v0, vs0, d0, ds0, p0, q0, hargs, rfl, rfl, h0, r0⟩ := trodAll_cons hA
  obtain ⟨v1, vs1, d1, ds1, p1, q1, rfl, rfl, rfl, h1, r1⟩ := trodAll_cons r0
  obtain ⟨v2, vs2, d2, ds2, p2, q2, rfl, rfl, rfl, h2, r2⟩ := trodAll_cons r1
  obtain ⟨rfl, rfl, rfl⟩ := trodAll_nil r2
  obtain rfl : args = #[v0, v1, v2] := by cases args; simp_all
  obtain ⟨rfl, rfl⟩ := trodVars_none hV
  obtain ⟨cs0, rfl, hsz0, _⟩ : ∃ cs, v0 = .agg cs ∧ cs.size = Try.prog.cellsOf 26 ∧ Row.okWide Try.prog W .any base 26 cs := by
    have := hval 0 26 v0 rfl rfl
    simpa [Value.okWide, Try.underlying26] using this
  have k0 := h0
  have lt0 : ∀ x ∈ p0, x.block < W.heap.size := by obtain ⟨m, hm⟩ := k0; exact DataW.trod_lt m _ _ _ hm
  obtain ⟨fuel0, hf0⟩ := h0
  obtain ⟨se0, S0, ep0, hq0, _⟩ := open_bg hsz0 hf0
  obtain ⟨a1, len1, cap1, rfl⟩ := okWide_slice Try.underlying27 (hval 1 27 v1 rfl rfl)
  have k1 := h1
  have lt1 : ∀ x ∈ p1, x.block < W.heap.size := by obtain ⟨m, hm⟩ := k1; exact DataW.trod_lt m _ _ _ hm
  obtain ⟨l1, hl1, ho1, hn1⟩ : ∃ l : List OpV, l.length = len1 ∧ OpR W a1 l ∧ len1 ≤ 9223372036854775807 := by obtain ⟨m, hm⟩ := h1; exact open_vops hm
  obtain ⟨a2, len2, cap2, rfl⟩ := okWide_slice Try.underlying27 (hval 2 27 v2 rfl rfl)
  have k2 := h2
  have lt2 : ∀ x ∈ p2, x.block < W.heap.size := by obtain ⟨m, hm⟩ := k2; exact DataW.trod_lt m _ _ _ hm
  obtain ⟨l2, hl2, ho2, hn2⟩ : ∃ l : List OpV, l.length = len2 ∧ OpR W a2 l ∧ len2 ≤ 9223372036854775807 := by obtain ⟨m, hm⟩ := h2; exact open_vops hm
  clear hA0
  have HC := apart_any se0 S0 ep0 a1 l1 len1 cap1 a2 l2 len2 cap2 W hl1 ho1 hn1 hl2 ho2 hn2
  rw [← hq0] at HC
  refine HC.mono fun e W' ⟨he, bel⟩ => ?_
  subst he
  exact ⟨_, rfl, _, _, _, [], _, [], hW', trodAll_mk1 (shut_bool Try.underlying4 _), (trodAll_cons_mk (Below.trod laidOut (by kernel_rfl) (of_decide_eq_true (by kernel_rfl)) k0 bel lt0) (trodAll_cons_mk (Below.trod laidOut (by kernel_rfl) (of_decide_eq_true (by kernel_rfl)) k1 bel lt1) (trodAll_cons_mk (Below.trod laidOut (by kernel_rfl) (of_decide_eq_true (by kernel_rfl)) k2 bel lt2) trodAll_mk0))), rfl, bel.frame _, fun h => by cases h⟩
theorem reads (os : Os) {H : Type} (enc : TypeId × Value → H) : ∃ places, DataW.whole enc Try.prog ((laidWorld Try.prog os).forCall (fun _ _ => 0) ⟨#[], #[.agg zeroBg, .slice none 0 0, .slice none 0 0], []⟩).memory Try.f7.params.toList Rows.viewApartSpec.vars false (#[.agg zeroBg, .slice none 0 0, .slice none 0 0] : Array Value).toList 8 = some ([zeroBgD, .nil, .nil], [], places) :=
  ⟨[], by kernel_rfl⟩

set_option maxRecDepth 100000 in
theorem lifted (os : Os) (started : os.Started) (H : Type) (enc : TypeId × Value → H) (F : Stop.Interp) :
    ReturnsInHanded {} Try.checked os 7 .any ((OpenSpec.ofChange Rows.viewApartSpec).preRow enc Try.prog Try.f7 Rows.viewApartRow.domain false Rows.viewApartRow.laid) (((OpenSpec.ofChange Rows.viewApartSpec).at F).post enc Try.prog Try.f7 false true false false) := by
  obtain ⟨places, hx⟩ := reads os enc
  refine returnsInHanded_of_row (C := Try.checked) (s := OpenSpec.ofChange Rows.viewApartSpec) own started (by kernel_rfl) Try.func7
    (witness_row_at (enc := enc) (C := Try.checked) false (laidWorld Try.prog os) #[.agg zeroBg, .slice none 0 0, .slice none 0 0] rfl (by kernel_rfl) (by kernel_rfl) (by kernel_rfl)
      (OpenSpec.preRow_of_cond 8 hx (by kernel_rfl) (fun k hk => by cases hk) (by kernel_rfl) (laid_met os _))) ?_
  intro W base args ds gs before hval hW _ hcond hsz hL _ _
  exact contract H enc W base args ds gs before hval hW hsz hL

theorem said : Rows.ViewApartSaid :=
  OpenClaim.holds_of_cond 7 Try.f7 rfl rfl rfl rfl rfl rfl rfl ⟨rfl, rfl, rfl, rfl, rfl⟩ rfl rfl rfl rfl rfl (by kernel_rfl) Try.func7 (by kernel_rfl)
    (of_decide_eq_true (by kernel_rfl)) (by unfold Func.isWrapper; first | (rw [if_pos (by decide +kernel)]; kernel_rfl) | (rw [if_neg (by decide +kernel)]; exact ⟨rfl, rfl⟩))
    (fun os started H enc _ F => by rw [OpenClaim.pre_eq_preRow]; exact lifted os started H enc F)


end Go.Proofs.Ytdicjnkbmlamgaa.viewApart
namespace Go.Proofs.Ytdicjnkbmlamgaa
open Go
/-- THE STATEMENT -/
theorem viewApart_holds : Rows.ViewApartSaid := viewApart.said
#print axioms viewApart_holds
end Go.Proofs.Ytdicjnkbmlamgaa
