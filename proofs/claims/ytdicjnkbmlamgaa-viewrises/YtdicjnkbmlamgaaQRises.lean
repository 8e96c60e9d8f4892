/- Whatever the beginning and the script: no call makes an epoch fall, nor the greatest one, and none is above that (ViewRises, its first form; no condition). -/
import Derived.Test.YtdicjnkbmlamgaaM39
import Derived.Test.YtdicjnkbmlamgaaRows
import Derived.ProofKit
import Derived.OpenShut
import Derived.ShutString
import Derived.ChangeMaps5
import Derived.ChangeOld
import Derived.RowKit
import Derived.Deep.DeepHandedRow
import Derived.SizedLaws
import Derived.Test.YtdicjnkbmlamgaaM03
import Derived.Test.YtdicjnkbmlamgaaM38
namespace Go.Proofs.Ytdicjnkbmlamgaa
open Go.RowKit
open Slot

set_option maxHeartbeats 8000000 in
set_option maxRecDepth 100000 in
theorem rises_any (self : Int) (S : Nat → Bool) (e : Nat) (a : Option Addr) (L : List OpV) (n c : Nat) (w : World) (hn : L.length = n) (hL : OpR w a L) (hm : n ≤ 9223372036854775807) :
    Calls Try.prog 5 #[.agg (bgC self S e), .slice a n c] w fun e w' => e = .returned (.bool true) ∧ Below w.heap.size w w' := by
  have HW1 := hid (below_alloc w (.cells (bgC self S e) 26))
  have HB1 := hid (bg_new w self S e)
  have HOp := hid hL
  have HN := hid hn
  have iC := infoBl (S := S)
  have HAl := hid (fun W => alive_any W)
  obtain ⟨q0, q1, q2⟩ := HB1.out.cells
  have HQ1 := hid q1
  have HNy := hid (fun (m : Nat) W (h1 : self = (m : Int)) (h2 : m < 64) (h3 : e ≤ 4611686018427387904) => show Calls Try.prog 14 #[.int .i64 self, .agg (cellsOf S), .int .u64 (e : Int)] W fun r w' => ∃ b v, r = .returned (.tuple #[.pointer (some ⟨b, 0, none⟩), .int .i64 0]) ∧ VB w' b v ∧ v.Ok 0 ∧ W.heap.size ≤ b ∧ Below W.heap.size W w' by
    subst h1
    refine (pnew_yes m e S W h2 h3).mono ?_
    rintro r w' ⟨b, h, hv, hb, hw⟩
    exact ⟨b, _, h, hv, new_ok S h2 h3, hb, hw⟩)
  have HNn := hid (fun (cc : Int) W (h : newE self e = cc) (hc : cc ≠ 0) => pnew_no self e S cc W h hc)
  obtain ⟨BC, hBC⟩ : ∃ C, bgC self S e = C := ⟨_, rfl⟩
  obtain ⟨CS, hCS⟩ : ∃ C, cellsOf S = C := ⟨_, rfl⟩
  rw [hCS] at HNy HNn iC HQ1
  rw [hBC] at HW1 HQ1 q0 q2 ⊢
  clear hBC hCS hn hL q1 HB1
  by_cases hE : newE self e = 0
  · obtain ⟨m, h1, h2, h3⟩ : ∃ m : Nat, self = (m : Int) ∧ m < 64 ∧ e ≤ 4611686018427387904 := by
      unfold newE at hE
      by_cases h1 : 0 ≤ self ∧ self < 64
      · rw [if_pos h1] at hE
        by_cases h2 : e ≤ 4611686018427387904
        · obtain ⟨m, rfl⟩ := Int.eq_ofNat_of_zero_le h1.1
          exact ⟨m, rfl, by omega, h2⟩
        · rw [if_neg h2] at hE; cases hE
      · rw [if_neg h1] at hE; cases hE
    have HNw := hid (fun W => HNy.out m W h1 h2 h3)
    clear HNy HNn h1 h2 h3 hE
    go_enter Try.func5, Try.ntmps5
    go_upto_region 1 with fail
    generalize w.alloc (.cells BC 26) = w1 at *
    go_wp2_with (refine wpList_load_mid rfl 24 _ rfl w.heap.size 1 rfl _ _ HQ1.out Try.underlying24 rfl iC ?_; rw [Array.toArray_toList])
    refine (HNw.out _).mono ?_; rintro r w2 ⟨b, v0, rfl, hv, hok, hbb, hb⟩
    have HV2 := hid hv
    have HOk0 := hid hok
    have HW2 := hid (HW1.out.trans (hb.mono HW1.out.size))
    have HBw : Hid (w.heap.size ≤ b) := by have := HW1.out.size; show _ ≤ _; omega
    clear hv hok hbb hb q0 q2 HQ1 HNw HW1
    by_cases h300 : 300 < n
    · have hz : (300 : Int) < (n : Int) := by omega
      clear HOp
      go_wp2_with fail
      refine (HAl.out _).mono ?_; rintro r w3 ⟨rfl, hb3⟩
      have HW3 := hid (HW2.out.trans (hb3.mono HW2.out.size))
      clear hb3
      go_wp2_with fail
      go_ret
      exact ⟨rfl, HW3.out⟩
    · have hz : (n : Int) ≤ 300 := by omega
      have H300 : Hid (n ≤ 300) := by show _ ≤ _; omega
      clear h300 hm
      go_wp2_with fail
      go_loopw [35] (fun c35 wr => ∃ (k : Nat) (v : Vw), c35 = .int .i64 (k : Int) ∧ k ≤ n ∧ Hid (v.Ok k) ∧ Hid (VB wr b v) ∧ Hid (Below w.heap.size w wr)) (fun i _ => n - (intOf i).toNat)
      case atStart => exact ⟨0, v0, rfl, Nat.zero_le _, HOk0.out, HV2.out, HW2.out⟩
      case round =>
        clear HV2 HOk0 HW2
        obtain ⟨k, v, rfl, hk, HOk, HV, HW⟩ := hrel
        by_cases hlt : k < n
        · have hkz : (k : Int) < (n : Int) := by omega
          have hkL : k < L.length := by have := HN.out; omega
          obtain ⟨sb, so, rfl, hbl, h1⟩ := HOp.out (fun e => by rw [e] at hkL; exact absurd hkL (Nat.not_lt_zero _))
          obtain ⟨op, hop⟩ : ∃ op, L[k] = op := ⟨_, rfl⟩
          have g0 := h1 k hkL
          rw [hop] at g0
          have HGr : Hid (wr.rangeAt sb (so + k * 265) (opCells op).toList) := fun j v hv => by
            rw [HW.out.cell (p := ⟨sb, so + k * 265 + j, none⟩) hbl]; exact g0 j v hv
          have iO := infoOl op
          have iO2 := infoOp op
          have oO := opCells_one op
          have hta : (opCells op).toList.toArray = opCells op := Array.toArray_toList
          clear h1 g0 hop hkL
          have HZ := hid (heap_alloc_new wr (.cells Try.zeroCells46 46))
          have zs : Try.zeroCells46.size = (opCells op).size := by rw [opCells_size]; exact Try.zeroCells46_size
          have HBx : Hid (((wr.alloc (.cells Try.zeroCells46 46)).setRow wr.heap.size (opCells op)).heap[wr.heap.size]? = some (.cells (opCells op) 46 (0, 0))) := setRow_heap _ _ _ _ _ _ HZ.out
          have hb4 := below_setRow (g := wr.heap.size) (below_alloc wr (.cells Try.zeroCells46 46)) (Nat.le_refl _) (opCells op)
          have HV4 := hid (HV.out.below hb4 HV.out.lt)
          have HW4 := hid (HW.out.trans (hb4.mono HW.out.size))
          have HOb : Hid (b < wr.heap.size) := HV.out.lt
          have HPd := hid (fun W h => pdo_any b v op W h (HOk.out.mono (by have := H300.out; omega)))
          have HRi := hid (do_rises (o := op) HOk.out)
          have HOk2 := hid (do_ok (o := op) HOk.out)
          obtain ⟨OC, hOC⟩ : ∃ C, opCells op = C := ⟨_, rfl⟩
          rw [hOC] at HGr iO iO2 oO hta zs HBx HV4 HW4 HPd
          clear hOC hb4
          go_upto_region 7 with (first | (refine wpList_load_mid rfl 46 _ rfl sb (so + k * 265) rfl _ _ HGr.out Try.underlying46 rfl iO ?_; rw [hta]) | (refine wpList_store_row rfl 46 _ _ rfl wr.heap.size OC rfl rfl 46 _ HZ.out iO2 zs oO ?_))
          generalize (wr.alloc (.cells Try.zeroCells46 46)).setRow wr.heap.size OC = w4 at *
          generalize wr.heap.size = ob at *
          clear HZ HGr iO oO hta zs HV HW
          have HCl := hid (clone_any b v w4 HV4.out)
          go_wp2_with fail
          refine HCl.out.mono ?_; rintro r w5 ⟨rfl, hvc, hb5⟩
          have HV5 := hid (HV4.out.below hb5 HV4.out.lt)
          have HW5 := hid (HW4.out.trans (hb5.mono HW4.out.size))
          have HB5 : Hid (w5.heap[ob]? = some (.cells OC 46 (0, 0))) := (hb5.block _ (Array.getElem?_eq_some_iff.1 HBx.out).1).trans HBx.out
          have HPd5 := hid (HPd.out _ HV5.out)
          have hcb : w4.heap.size ≠ b := by have := HV4.out.lt; omega
          obtain ⟨cb, hcbe⟩ : ∃ x, w4.heap.size = x := ⟨_, rfl⟩
          rw [hcbe] at hvc hcb ⊢
          have HVc := hid hvc
          have HCb := hid hcb
          clear hvc hb5 hcb hcbe HCl HPd HBx HV4 HW4
          go_wp2_with (refine wpList_load_row rfl 46 _ rfl ob rfl 46 _ (0, 0) _ HB5.out Try.underlying46 rfl iO2 ?_)
          refine HPd5.out.mono ?_; rintro r w6 ⟨A, rfl, -, hv6, hon⟩
          have HV6 := hid hv6
          have HVc6 := hid (HVc.out.only hon HCb.out)
          have HW6 := hid (HW5.out.trans (hon.below HBw.out HW5.out.size))
          clear hv6 hon HPd5 HVc HB5 HV5 HW5
          obtain ⟨u, hu⟩ : ∃ u, doV v op = u := ⟨_, rfl⟩
          rw [hu] at HV6 HRi HOk2
          clear hu
          have HCu := hid (current_any b u w6 HV6.out)
          have HCv := hid (current_any cb v w6 HVc6.out)
          have HEu := hid (fun (j : Nat) (h : j < 64) => (epI_in u h) ▸ epoch_any b u (j : Int) w6 HV6.out)
          have HEv := hid (fun (j : Nat) (h : j < 64) => (epI_in v h) ▸ epoch_any cb v (j : Int) w6 HVc6.out)
          obtain ⟨cu, hcu⟩ : ∃ x, u.cur = x := ⟨_, rfl⟩
          obtain ⟨cv, hcv⟩ : ∃ x, v.cur = x := ⟨_, rfl⟩
          have hcc : ¬ (cu : Int) < (cv : Int) := by have := HRi.out.1; rw [hcu, hcv] at this; omega
          have HEe : Hid (∀ j, j < 64 → ¬ (u.ep j : Int) < (v.ep j : Int) ∧ ¬ (cu : Int) < (u.ep j : Int)) := fun j _ => by
            have h1 := HRi.out.2 j
            have h2 := HOk2.out.ep j
            rw [hcu] at h2
            omega
          rw [hcu] at HCu
          rw [hcv] at HCv
          clear hcu hcv HRi HVc6
          go_wp2_with fail
          refine HCu.out.mono ?_; rintro r w7 ⟨rfl, rfl⟩
          go_wp2_with fail
          refine HCv.out.mono ?_; rintro r w7 ⟨rfl, rfl⟩
          go_upto_region 11 with fail
          generalize decide (cu < cv) = D
          go_wp2_with fail
          go_loopw [53] (fun c53 wr => ∃ j : Nat, c53 = .int .i64 (j : Int) ∧ j ≤ 64 ∧ wr = w7) (fun i _ => 64 - (intOf i).toNat)
          case atStart => exact ⟨0, rfl, Nat.zero_le _, rfl⟩
          case round =>
            obtain ⟨j, rfl, hj, hwr⟩ := hrel
            subst hwr
            by_cases hjl : j < 64
            · have hjz : (j : Int) < 64 := by omega
              obtain ⟨e1, e2⟩ := HEe.out j hjl
              have HEuj := hid (HEu.out j hjl)
              have HEvj := hid (HEv.out j hjl)
              generalize u.ep j = x at *
              generalize v.ep j = y at *
              go_wp2_with fail
              refine HEuj.out.mono ?_; rintro r w8 ⟨rfl, rfl⟩
              go_wp2_with fail
              refine HEvj.out.mono ?_; rintro r w8 ⟨rfl, rfl⟩
              go_wp2_with fail
              refine HEuj.out.mono ?_; rintro r w8 ⟨rfl, rfl⟩
              go_wp2_with fail
              refine HCu.out.mono ?_; rintro r w8 ⟨rfl, rfl⟩
              go_wp2_with fail
              go_roundw
              case rel => first | exact ⟨j + 1, by go_num, by omega, by first | rfl | trivial⟩ | ((repeat apply Exists.intro); exact ⟨⟨j + 1, by go_num, by omega, by first | rfl | trivial⟩, rfl⟩)
              case measure => simp [intOf]; omega
            · obtain rfl : j = 64 := by omega
              go_wp2_with fail
              go_roundw
              case rel => exact ⟨k + 1, u, by go_num, by omega, HOk2.out, HV6.out, HW6.out⟩
              case measure => simp [intOf]; omega
        · obtain rfl : k = n := by omega
          go_wp2_with fail
          refine (HAl.out _).mono ?_; rintro r w3 ⟨rfl, hb3⟩
          have HW3 := hid (HW.out.trans (hb3.mono HW.out.size))
          clear hb3
          go_wp2_with fail
          go_ret
          exact ⟨rfl, HW3.out⟩
  · obtain ⟨cc, hcc⟩ : ∃ cc, newE self e = cc := ⟨_, rfl⟩
    rw [hcc] at hE
    have HNw := hid (fun W => HNn.out cc W hcc hE)
    have hce : (cc != 0) = true := by rw [bne_iff_ne]; exact hE
    clear HNy HNn hcc hE
    go_enter Try.func5, Try.ntmps5
    go_upto_region 1 with fail
    generalize w.alloc (.cells BC 26) = w1 at *
    go_wp2_with (refine wpList_load_mid rfl 24 _ rfl w.heap.size 1 rfl _ _ HQ1.out Try.underlying24 rfl iC ?_; rw [Array.toArray_toList])
    refine (HNw.out _).mono ?_; rintro r w2 ⟨rfl, hb⟩
    have HW2 := hid (HW1.out.trans (hb.mono HW1.out.size))
    clear hb q0 q2 HQ1 HNw HW1
    go_wp2_with fail
    refine (HAl.out _).mono ?_; rintro r w3 ⟨rfl, hb3⟩
    have HW3 := hid (HW2.out.trans (hb3.mono HW2.out.size))
    clear hb3
    go_wp2_with fail
    go_ret
    exact ⟨rfl, HW3.out⟩

end Go.Proofs.Ytdicjnkbmlamgaa

namespace Go.Proofs.Ytdicjnkbmlamgaa.viewRises
open Go.ChangeShapes Go.WideShapes Go.ChangeAt Go.RowKit
open Go.ChangeMaps (open_string shut_string)


theorem own : ownKnob Try.prog.godebug = none := by kernel_rfl
theorem laidOut : laidOutB Try.prog = true := by kernel_rfl
set_option maxRecDepth 100000 in
theorem contract (H : Type) (enc : TypeId × Value → H) (W : World) (base : Nat) (args : Array Value) (ds gs : List (DataW H)) (before : List MemPlace)
    (hval : ∀ (j : Nat) t v, Try.f5.params[j]? = some t → args[j]? = some v → Value.okWide Try.prog W .any base t v)
    (hW : DataW.Whole enc Try.prog Try.f5.params.toList Rows.viewRisesSpec.vars false W args.toList ds gs before) (hsz0 : (DataW.weightsEach Try.prog (Try.f5.params.toList ++ Rows.viewRisesSpec.plain.varTypes Try.prog) (ds ++ gs)).all (· ≤ reachBytes) = true) (_hL : laidMetH Try.prog listed W) :
    Calls Try.prog 5 args W fun e W' => ∃ v, e = .returned v ∧ Rows.viewRisesSpec.post enc Try.prog Try.f5 false true false false W args v W' := by
  have hW' := hW
  obtain ⟨p, q, hA0, hV, rfl, hfz, hnd⟩ := hW
  have hA : DataW.TrodAll enc Try.prog W 0 (fun _ => true) true Try.f5.params.toList args.toList ds p := hA0
  have hsz : (DataW.weightsEach Try.prog (Try.f5.params.toList ++ Rows.viewRisesSpec.plain.varTypes Try.prog) (ds ++ gs)).all (· ≤ reachBytes) = true := hsz0
  clear hsz0
  rw [Try.params5] at hA hval hsz
  obtain ⟨v0, vs0, d0, ds0, p0, q0, hargs, rfl, rfl, h0, r0⟩ := trodAll_cons hA
  obtain ⟨v1, vs1, d1, ds1, p1, q1, rfl, rfl, rfl, h1, r1⟩ := trodAll_cons r0
  obtain ⟨rfl, rfl, rfl⟩ := trodAll_nil r1
  obtain rfl : args = #[v0, v1] := by cases args; simp_all
  obtain ⟨rfl, rfl⟩ := trodVars_none hV
  obtain ⟨cs0, rfl, hsz0, _⟩ : ∃ cs, v0 = .agg cs ∧ cs.size = Try.prog.cellsOf 26 ∧ Row.okWide Try.prog W .any base 26 cs := by
    have := hval 0 26 v0 rfl rfl
    simpa [Value.okWide, Try.underlying26] using this
  have k0 := h0
  have lt0 : ∀ x ∈ p0, x.block < W.heap.size := by obtain ⟨m, hm⟩ := k0; exact DataW.trod_lt m _ _ _ hm
  obtain ⟨fuel0, hf0⟩ := h0
  obtain ⟨se0, S0, ep0, hq0, _⟩ := open_bg hsz0 hf0
  obtain ⟨a1, len1, cap1, rfl⟩ := okWide_slice Try.underlying27 (hval 1 27 v1 rfl rfl)
  have k1 := h1
  have lt1 : ∀ x ∈ p1, x.block < W.heap.size := by obtain ⟨m, hm⟩ := k1; exact DataW.trod_lt m _ _ _ hm
  obtain ⟨l1, hl1, ho1, hn1⟩ : ∃ l : List OpV, l.length = len1 ∧ OpR W a1 l ∧ len1 ≤ 9223372036854775807 := by obtain ⟨m, hm⟩ := h1; exact open_vops hm
  clear hA0
  have HC := rises_any se0 S0 ep0 a1 l1 len1 cap1 W hl1 ho1 hn1
  rw [← hq0] at HC
  refine HC.mono fun e W' ⟨he, bel⟩ => ?_
  subst he
  exact ⟨_, rfl, _, _, _, [], _, [], hW', trodAll_mk1 (shut_bool Try.underlying4 _), (trodAll_cons_mk (Below.trod laidOut (by kernel_rfl) (of_decide_eq_true (by kernel_rfl)) k0 bel lt0) (trodAll_cons_mk (Below.trod laidOut (by kernel_rfl) (of_decide_eq_true (by kernel_rfl)) k1 bel lt1) trodAll_mk0)), rfl, bel.frame _, fun h => by cases h⟩
theorem reads (os : Os) {H : Type} (enc : TypeId × Value → H) : ∃ places, DataW.whole enc Try.prog ((laidWorld Try.prog os).forCall (fun _ _ => 0) ⟨#[], #[.agg zeroBg, .slice none 0 0], []⟩).memory Try.f5.params.toList Rows.viewRisesSpec.vars false (#[.agg zeroBg, .slice none 0 0] : Array Value).toList 8 = some ([zeroBgD, .nil], [], places) :=
  ⟨[], by kernel_rfl⟩

set_option maxRecDepth 100000 in
theorem lifted (os : Os) (started : os.Started) (H : Type) (enc : TypeId × Value → H) (F : Stop.Interp) :
    ReturnsInHanded {} Try.checked os 5 .any ((OpenSpec.ofChange Rows.viewRisesSpec).preRow enc Try.prog Try.f5 Rows.viewRisesRow.domain false Rows.viewRisesRow.laid) (((OpenSpec.ofChange Rows.viewRisesSpec).at F).post enc Try.prog Try.f5 false true false false) := by
  obtain ⟨places, hx⟩ := reads os enc
  refine returnsInHanded_of_row (C := Try.checked) (s := OpenSpec.ofChange Rows.viewRisesSpec) own started (by kernel_rfl) Try.func5
    (witness_row_at (enc := enc) (C := Try.checked) false (laidWorld Try.prog os) #[.agg zeroBg, .slice none 0 0] rfl (by kernel_rfl) (by kernel_rfl) (by kernel_rfl)
      (OpenSpec.preRow_of_cond 8 hx (by kernel_rfl) (fun k hk => by cases hk) (by kernel_rfl) (laid_met os _))) ?_
  intro W base args ds gs before hval hW _ hcond hsz hL _ _
  exact contract H enc W base args ds gs before hval hW hsz hL

theorem said : Rows.ViewRisesSaid :=
  OpenClaim.holds_of_cond 5 Try.f5 rfl rfl rfl rfl rfl rfl rfl ⟨rfl, rfl, rfl, rfl, rfl⟩ rfl rfl rfl rfl rfl (by kernel_rfl) Try.func5 (by kernel_rfl)
    (of_decide_eq_true (by kernel_rfl)) (by unfold Func.isWrapper; first | (rw [if_pos (by decide +kernel)]; kernel_rfl) | (rw [if_neg (by decide +kernel)]; exact ⟨rfl, rfl⟩))
    (fun os started H enc _ F => by rw [OpenClaim.pre_eq_preRow]; exact lifted os started H enc F)


end Go.Proofs.Ytdicjnkbmlamgaa.viewRises
namespace Go.Proofs.Ytdicjnkbmlamgaa
open Go
/-- THE STATEMENT -/
theorem viewRises_holds : Rows.ViewRisesSaid := viewRises.said
#print axioms viewRises_holds
end Go.Proofs.Ytdicjnkbmlamgaa
