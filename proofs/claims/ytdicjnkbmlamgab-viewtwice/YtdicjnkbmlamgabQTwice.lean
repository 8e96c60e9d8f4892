/- Whatever the beginning, the script and the packet: a packet that comes twice, one behind the other, changes nothing the second time, and is answered alike (ViewTwice, its first form; no condition). -/
import Derived.Test.YtdicjnkbmlamgabM34
import Derived.Test.YtdicjnkbmlamgabM36
import Derived.Test.YtdicjnkbmlamgabM37
import Derived.Test.YtdicjnkbmlamgabRows
import Derived.ProofKit
import Derived.OpenShut
import Derived.ShutString
import Derived.ChangeMaps5
import Derived.ChangeOld
import Derived.RowKit
import Derived.Deep.DeepHandedRow
import Derived.SizedLaws
import Derived.Test.YtdicjnkbmlamgabM03
import Derived.Test.YtdicjnkbmlamgabM38
namespace Go.Proofs.Ytdicjnkbmlamgab
open Go.RowKit
open Slot

/-- a row of a document's view behind a call, put into a block of its own -/
theorem put_row {w w2 : World} {RC : Array Value} (h : Below w.heap.size w w2) (hs : RC.size = 3) : Below w.heap.size w ((w2.alloc (.cells #[.int .i64 0, .slice none 0 0, .int .u64 0] 33)).setRow w2.heap.size RC) ∧ (#[.int .i64 0, .slice none 0 0, .int .u64 0] : Array Value).size = RC.size ∧ (Try.prog.info? 33).map (·.size) = some RC.size ∧ Below w2.heap.size w2 ((w2.alloc (.cells #[.int .i64 0, .slice none 0 0, .int .u64 0] 33)).setRow w2.heap.size RC) :=
  ⟨below_setRow (h.alloc h.size _) h.size _, hs.symm, infoRV hs, below_setRow (below_alloc w2 _) (Nat.le_refl _) _⟩
/-- twice, on its way: two views that are one another's copies, two rows of packets -/
structure Tw (w wr : World) (b c : Nat) (u : Vw) (B1 B2 : Nat) (v1 v2 : Value) (L : List Pk) : Prop where
  vb : VB wr b u
  vc : VB wr c u
  o1 : OwnP B1 wr v1 L
  o2 : OwnP B2 wr v2 L
  bel : Below w.heap.size w wr
theorem Tw.call {w wr w' : World} {b c : Nat} {u : Vw} {B1 B2 : Nat} {v1 v2 : Value} {L : List Pk} (h : Tw w wr b c u B1 B2 v1 v2 L) (hb : Below wr.heap.size wr w') : Tw w w' b c u B1 B2 v1 v2 L :=
  ⟨h.vb.below hb h.vb.lt, h.vc.below hb h.vc.lt, h.o1.below hb, h.o2.below hb, h.bel.trans (hb.mono h.bel.size)⟩
theorem pk_vb_ne {w : World} {c b : Nat} {p : Pk} {v : Vw} (h : PBox w c p) (k : VB w b v) : c ≠ b := fun e => by
  obtain ⟨D, k1, _⟩ := k
  unfold PBox at h
  rw [e, k1] at h
  injection h with h2
  injection h2 with _ h3
  cases h3
theorem answ_len (v : Vw) (p : Pk) : (answV v p).length ≤ 2 := by
  have := doA_len v ⟨0, 0, 0, 0, p⟩
  unfold doA at this
  rwa [if_pos rfl] at this
set_option maxHeartbeats 8000000 in
set_option maxRecDepth 100000 in
theorem twice_any (self : Int) (S : Nat → Bool) (e : Nat) (a : Option Addr) (L : List OpV) (n c : Nat) (p : Pk) (w : World) (hn : L.length = n) (hL : OpR w a L) (hm : n ≤ 9223372036854775807) :
    Calls Try.prog 3 #[.agg (bgC self S e), .slice a n c, .agg (pkCells p)] w fun e w' => e = .returned (.bool true) ∧ Below w.heap.size w w' := by
  have b1 := below_alloc w (.cells (bgC self S e) 26)
  have b2 := below_alloc (w.alloc (.cells (bgC self S e) 26)) (.cells (pkCells p) 29)
  have e1 : (w.alloc (.cells (bgC self S e) 26)).heap.size = w.heap.size + 1 := by simp
  have HW1 : Hid (Below w.heap.size w ((w.alloc (.cells (bgC self S e) 26)).alloc (.cells (pkCells p) 29))) := b1.trans (b2.mono (by omega))
  have HB1 : Hid (((w.alloc (.cells (bgC self S e) 26)).alloc (.cells (pkCells p) 29)).heap[w.heap.size]? = some (.cells (bgC self S e) 26 (0, 0))) := heap_alloc2_old w _ _
  have HP1 : Hid (PBox ((w.alloc (.cells (bgC self S e) 26)).alloc (.cells (pkCells p) 29)) (w.heap.size + 1) p) := heap_alloc2_new w _ _
  have iB := infoBg self S e
  have HBe := hid (begun_any self e n c S a L _ hn (hL.below HW1.out (Nat.le_refl _)) hm)
  have HAl := hid (fun W => alive_any W)
  have HTk := hid (fun b v W h k => ptake_any b v p W h k)
  have HFo := hid (fun W => few_one p W)
  have iP : (Try.prog.info? 29).map (·.size) = some (pkCells p).size := infoPk p
  obtain ⟨BC, hBC⟩ : ∃ C, bgC self S e = C := ⟨_, rfl⟩
  obtain ⟨PC, hPC⟩ : ∃ C, pkCells p = C := ⟨_, rfl⟩
  have HPk : Hid (∀ W c, PBox W c p → W.heap[c]? = some (.cells PC 29 (0, 0))) := fun W c h => by rw [← hPC]; exact h
  rw [hPC] at HW1 HB1 HP1 HBe HTk HFo iP ⊢
  rw [hBC] at HW1 HB1 HP1 HBe iB ⊢
  clear hBC hPC hn hL hm b1 b2 e1
  go_enter Try.func3, Try.ntmps3
  go_upto_region 1 with fail
  generalize (w.alloc (.cells BC 26)).alloc (.cells PC 29) = w1 at *
  obtain ⟨pb, hpb⟩ : ∃ x, w.heap.size + 1 = x := ⟨_, rfl⟩
  rw [hpb] at HP1 ⊢
  clear hpb
  go_wp2_with (refine wpList_load_row rfl 26 _ rfl w.heap.size rfl 26 _ (0, 0) _ HB1.out Try.underlying26 rfl iB ?_)
  refine HBe.out.mono ?_; rintro r w2 ⟨x, RC, rfl, hs, ho, hb, hx⟩
  have HW2 := hid (HW1.out.trans (hb.mono HW1.out.size))
  have HP2 := hid (HP1.out.below hb HP1.out.lt)
  obtain ⟨b3, hz, iR, hb3⟩ := put_row HW2.out hs
  have HW3 := hid b3
  have HP3 := hid (HP2.out.below hb3 HP2.out.lt)
  have HB3 := hid hb3
  have HX := hid hx
  have HO := hid ho
  have HZ := hid (heap_alloc_new w2 (.cells #[.int .i64 0, .slice none 0 0, .int .u64 0] 33))
  clear hb b3 hb3 hx ho hs HBe HB1 HP2 HP1
  go_upto_region 2 with (refine wpList_store_row rfl 33 _ _ rfl w2.heap.size RC rfl rfl 33 _ HZ.out iR hz HO.out ?_)
  clear HZ
  generalize (w2.alloc (.cells #[.int .i64 0, .slice none 0 0, .int .u64 0] 33)).setRow w2.heap.size RC = w3 at *
  rcases HX.out with rfl | ⟨b, v, g, cap, rfl, -, hV, -, hOk, hbw⟩
  · go_wp2_with fail
    refine (HAl.out _).mono ?_; rintro r w4 ⟨rfl, hb4⟩
    have HW4 := hid (HW3.out.trans (hb4.mono HW3.out.size))
    clear hb4
    go_wp2_with fail
    go_ret
    exact ⟨rfl, HW4.out⟩
  · have HV3 := hid (hV.below HB3.out hV.lt)
    have HOk := hid hOk
    have HBw : Hid (w.heap.size ≤ b) := by have := HW1.out.size; show _ ≤ _; omega
    have HPr3 := hid (HPk.out _ _ HP3.out)
    clear hV hOk hbw HX HB3 HW2 hz iR HO
    obtain ⟨OC, hOC⟩ : ∃ C, opCells ⟨0, 0, 0, 0, p⟩ = C := ⟨_, rfl⟩
    rw [hOC] at HFo
    clear hOC
    go_wp2_with (first | (refine wpList_load_want rfl 29 _ rfl pb rfl 29 _ (0, 0) _ HPr3.out Try.underlying29 rfl iP ?_) | (refine BigFrame.wpList_want rfl (fun K hK => ?_); refine wp_buildO _ rfl PC OC (HFo.out w).1 rfl (hK _ _ ?_)) | (refine BigFrame.wpList_want rfl (fun K hK => ?_); refine wp_bsliceO _ rfl OC rfl (HFo.out w).2.1 (hK _ _ ?_)))
    refine (HFo.out _).2.2.mono ?_; rintro r w4 ⟨Bo, rfl, -, hb4⟩
    have hb34 := (below_alloc w3 (.cells OC 38)).trans (hb4.mono (below_alloc w3 (.cells OC 38)).size)
    have HV4 := hid (HV3.out.below hb34 HV3.out.lt)
    have HP4 := hid (HP3.out.below hb34 HP3.out.lt)
    have HW4 := hid (HW3.out.trans (hb34.mono HW3.out.size))
    clear hb4 hb34 HV3 HP3 HW3 HPr3 HFo
    cases Bo with
    | false =>
      go_wp2_with fail
      refine (HAl.out _).mono ?_; rintro r w5 ⟨rfl, hb5⟩
      have HW5 := hid (HW4.out.trans (hb5.mono HW4.out.size))
      clear hb5
      go_wp2_with fail
      go_ret
      exact ⟨rfl, HW5.out⟩
    | true =>
      have HPr4 := hid (HPk.out _ _ HP4.out)
      have HTk4 := hid (HTk.out b v w4 HV4.out (HOk.out.mono (by decide)))
      go_wp2_with (refine wpList_load_row rfl 29 _ rfl pb rfl 29 _ (0, 0) _ HPr4.out Try.underlying29 rfl iP ?_)
      refine HTk4.out.mono ?_; rintro r w5 ⟨A1, rfl, ho5, hv5, hon⟩
      have HP5 := hid (show PBox w5 pb p from (hon.block _ HP4.out.lt (pk_vb_ne HP4.out HV4.out)).trans HP4.out)
      have HW5 := hid (HW4.out.trans (hon.below HBw.out HW4.out.size))
      have HOu := hid (take_ok (p := p) HOk.out)
      have HT1 := hid (take_twice (p := p) HOk.out)
      have HT2 := hid (answ_twice (p := p) HOk.out)
      have HLe := hid (answ_len v p)
      obtain ⟨u, hu⟩ : ∃ u, takeV v p = u := ⟨_, rfl⟩
      obtain ⟨LA, hLA⟩ : ∃ l, answV v p = l := ⟨_, rfl⟩
      rw [hu] at hv5 HOu HT1 HT2
      rw [hLA] at ho5 HT2 HLe
      obtain ⟨x1, c1, rfl, -, -⟩ := ho5.shape
      have HV5 := hid hv5
      have HO5 := hid ho5
      have HCl := hid (clone_any b u w5 hv5)
      have HPs : Hid (pb < w5.heap.size ∧ b < w5.heap.size) := ⟨HP5.out.lt, hv5.lt⟩
      clear hv5 hon hu hLA ho5 HTk4 HPr4 HP4 HW4 HV4
      go_wp2_with fail
      refine HCl.out.mono ?_; rintro r w6 ⟨rfl, hv6, hb6⟩
      have HV6 := hid (HV5.out.below hb6 HV5.out.lt)
      have HC6 := hid hv6
      have HP6 := hid (HP5.out.below hb6 HP5.out.lt)
      have HW6 := hid (HW5.out.trans (hb6.mono HW5.out.size))
      have HO6 : Hid (OwnP w4.heap.size w6 (.slice x1 LA.length c1) LA) := HO5.out.below hb6
      have HKo : Hid (∀ W', Only w5.heap.size w6 W' → OwnP w4.heap.size W' (.slice x1 LA.length c1) LA ∧ VB W' b u ∧ Below w.heap.size w W') := fun W' h => by
        refine ⟨HO5.out.turn (fun k h1 h2 => (h.block k (Nat.lt_of_lt_of_le h2 hb6.size) (by omega)).trans (hb6.block k h2)), HV6.out.turn (h.block _ HV6.out.lt (by have := HPs.out.2; omega)), HW6.out.trans (h.below HW5.out.size HW6.out.size)⟩
      have HPr6 := hid (HPk.out _ _ HP6.out)
      have HTk6 := hid (HTk.out w5.heap.size u w6 hv6 (HOu.out.mono (by decide)))
      obtain ⟨cb, hcb⟩ : ∃ x, w5.heap.size = x := ⟨_, rfl⟩
      rw [hcb] at HC6 HKo HTk6 ⊢
      clear hv6 hb6 hcb HCl HV5 HO5 HP5 HTk HPs
      go_wp2_with (refine wpList_load_row rfl 29 _ rfl pb rfl 29 _ (0, 0) _ HPr6.out Try.underlying29 rfl iP ?_)
      refine HTk6.out.mono ?_; rintro r w7 ⟨A2, rfl, ho7, hv7, hon7⟩
      rw [HT1.out] at hv7
      rw [HT2.out] at ho7
      obtain ⟨x2, c2, rfl, -, -⟩ := ho7.shape
      obtain ⟨k1, k2, k3⟩ := HKo.out w7 hon7
      have HTw := hid (show Tw w w7 b cb u w4.heap.size w6.heap.size (.slice x1 LA.length c1) (.slice x2 LA.length c2) LA from ⟨k2, hv7, k1, ho7, k3⟩)
      obtain ⟨LN, hLN⟩ : ∃ x, LA.length = x := ⟨_, rfl⟩
      have HLN := hid hLN
      rw [hLN] at HTw HLe ⊢
      generalize w4.heap.size = B1 at HTw
      generalize w6.heap.size = B2 at HTw
      clear ho7 hv7 hon7 k1 k2 k3 hLN HTk6 HPr6 HKo HO6 HW6 HP6 HC6 HV6 HT1 HT2 HW5
      go_wp2_with fail
      go_loopw [48] (fun c48 wr => ∃ k : Nat, c48 = .int .i64 (k : Int) ∧ k ≤ 64 ∧ Hid (Tw w wr b cb u B1 B2 (.slice x1 LN c1) (.slice x2 LN c2) LA)) (fun i _ => 64 - (intOf i).toNat)
      case atStart => exact ⟨0, rfl, Nat.zero_le _, HTw.out⟩
      case round =>
        clear HTw
        obtain ⟨k, rfl, hk, HT⟩ := hrel
        by_cases hlt : k < 64
        · have hkz : (k : Int) < 64 := by omega
          have HEb := hid (epoch_any b u (k : Int) wr HT.out.vb)
          have HEc := hid (epoch_any cb u (k : Int) wr HT.out.vc)
          have HClb := hid (fun W h => claims_any b u (k : Int) W h)
          have HClc := hid (fun W h => claims_any cb u (k : Int) W h)
          have heq := fun w => eq_bits (clsI u (k : Int)) (clsI u (k : Int)) w
          rw [(sameB_iff _ _).2 (fun _ _ => rfl)] at heq
          obtain ⟨y, hy⟩ : ∃ y, epI u (k : Int) = y := ⟨_, rfl⟩
          obtain ⟨CX, hCX⟩ : ∃ x, cellsOf (clsI u (k : Int)) = x := ⟨_, rfl⟩
          rw [hy] at HEb HEc
          rw [hCX] at HClb HClc heq
          have hyy : ((y : Int) != (y : Int)) = false := by simp
          clear hy hCX
          go_wp2_with fail
          refine HEb.out.mono ?_; rintro r w8 ⟨rfl, rfl⟩
          go_wp2_with fail
          refine HEc.out.mono ?_; rintro r w8 ⟨rfl, rfl⟩
          go_wp2_with fail
          refine (HClb.out _ HT.out.vb).mono ?_; rintro r w9 ⟨rfl, hb9⟩
          have HT9 := hid (HT.out.call hb9)
          clear hb9
          go_wp2_with fail
          refine (HClc.out _ HT9.out.vc).mono ?_; rintro r wA ⟨rfl, hbA⟩
          have HTA := hid (HT9.out.call hbA)
          clear hbA
          go_wp2_with fail
          go_roundw
          case rel => exact ⟨k + 1, by go_num, by omega, HTA.out⟩
          case measure => simp [intOf]; omega
        · obtain rfl : k = 64 := by omega
          go_wp2_with fail
          refine (HAl.out _).mono ?_; rintro r w8 ⟨rfl, hb8⟩
          have HT8 := hid (HT.out.call hb8)
          obtain ⟨y1, d1, hy1, -, hq1⟩ := HT8.out.o1.shape
          obtain ⟨y2, d2, hy2, -, hq2⟩ := HT8.out.o2.shape
          have e1 : y1 = x1 := by injection hy1 with h _ _; exact h.symm
          have e2 : y2 = x2 := by injection hy2 with h _ _; exact h.symm
          rw [e1] at hq1
          rw [e2] at hq2
          have HSm := hid (same_eq x1 x2 LA LA LN c1 c2 w8 HLN.out HLN.out hq1 hq2 (by have := HLe.out; omega))
          rw [sameL_self] at HSm
          clear hb8 hy1 hy2 e1 e2 hq1 hq2
          go_wp2_with fail
          refine HSm.out.mono ?_; rintro r w9 ⟨rfl, hb9⟩
          have HT9 := hid (HT8.out.call hb9)
          have HCb := hid (current_any b u w9 HT9.out.vb)
          have HCc := hid (current_any cb u w9 HT9.out.vc)
          obtain ⟨cu, hcu⟩ : ∃ x, u.cur = x := ⟨_, rfl⟩
          rw [hcu] at HCb HCc
          have hcc : ((cu : Int) == (cu : Int)) = true := by simp
          clear hb9 hcu
          go_wp2_with fail
          refine HCb.out.mono ?_; rintro r wA ⟨rfl, rfl⟩
          go_wp2_with fail
          refine HCc.out.mono ?_; rintro r wA ⟨rfl, rfl⟩
          go_wp2_with fail
          go_ret
          exact ⟨rfl, HT9.out.bel⟩

end Go.Proofs.Ytdicjnkbmlamgab

namespace Go.Proofs.Ytdicjnkbmlamgab.viewTwice
open Go.ChangeShapes Go.WideShapes Go.ChangeAt Go.RowKit
open Go.ChangeMaps (open_string shut_string)


theorem own : ownKnob Try.prog.godebug = none := by kernel_rfl
theorem laidOut : laidOutB Try.prog = true := by kernel_rfl
set_option maxRecDepth 100000 in
theorem contract (H : Type) (enc : TypeId × Value → H) (W : World) (base : Nat) (args : Array Value) (ds gs : List (DataW H)) (before : List MemPlace)
    (hval : ∀ (j : Nat) t v, Try.f3.params[j]? = some t → args[j]? = some v → Value.okWide Try.prog W .any base t v)
    (hW : DataW.Whole enc Try.prog Try.f3.params.toList Rows.viewTwiceSpec.vars false W args.toList ds gs before) (hsz0 : (DataW.weightsEach Try.prog (Try.f3.params.toList ++ Rows.viewTwiceSpec.plain.varTypes Try.prog) (ds ++ gs)).all (· ≤ reachBytes) = true) (_hL : laidMetH Try.prog listed W) :
    Calls Try.prog 3 args W fun e W' => ∃ v, e = .returned v ∧ Rows.viewTwiceSpec.post enc Try.prog Try.f3 false true false false W args v W' := by
  have hW' := hW
  obtain ⟨p, q, hA0, hV, rfl, hfz, hnd⟩ := hW
  have hA : DataW.TrodAll enc Try.prog W 0 (fun _ => true) true Try.f3.params.toList args.toList ds p := hA0
  have hsz : (DataW.weightsEach Try.prog (Try.f3.params.toList ++ Rows.viewTwiceSpec.plain.varTypes Try.prog) (ds ++ gs)).all (· ≤ reachBytes) = true := hsz0
  clear hsz0
  rw [Try.params3] at hA hval hsz
  obtain ⟨v0, vs0, d0, ds0, p0, q0, hargs, rfl, rfl, h0, r0⟩ := trodAll_cons hA
  obtain ⟨v1, vs1, d1, ds1, p1, q1, rfl, rfl, rfl, h1, r1⟩ := trodAll_cons r0
  obtain ⟨v2, vs2, d2, ds2, p2, q2, rfl, rfl, rfl, h2, r2⟩ := trodAll_cons r1
  obtain ⟨rfl, rfl, rfl⟩ := trodAll_nil r2
  obtain rfl : args = #[v0, v1, v2] := by cases args; simp_all
  obtain ⟨rfl, rfl⟩ := trodVars_none hV
  obtain ⟨cs0, rfl, hsz0, _⟩ : ∃ cs, v0 = .agg cs ∧ cs.size = Try.prog.cellsOf 26 ∧ Row.okWide Try.prog W .any base 26 cs := by
    have := hval 0 26 v0 rfl rfl
    simpa [Value.okWide, Try.underlying26] using this
  have k0 := h0
  have lt0 : ∀ x ∈ p0, x.block < W.heap.size := by obtain ⟨m, hm⟩ := k0; exact DataW.trod_lt m _ _ _ hm
  obtain ⟨fuel0, hf0⟩ := h0
  obtain ⟨se0, S0, ep0, hq0, _⟩ := open_bg hsz0 hf0
  obtain ⟨a1, len1, cap1, rfl⟩ := okWide_slice Try.underlying27 (hval 1 27 v1 rfl rfl)
  have k1 := h1
  have lt1 : ∀ x ∈ p1, x.block < W.heap.size := by obtain ⟨m, hm⟩ := k1; exact DataW.trod_lt m _ _ _ hm
  obtain ⟨l1, hl1, ho1, hn1⟩ : ∃ l : List OpV, l.length = len1 ∧ OpR W a1 l ∧ len1 ≤ 9223372036854775807 := by obtain ⟨m, hm⟩ := h1; exact open_vops hm
  obtain ⟨cs2, rfl, hsz2, _⟩ : ∃ cs, v2 = .agg cs ∧ cs.size = Try.prog.cellsOf 29 ∧ Row.okWide Try.prog W .any base 29 cs := by
    have := hval 2 29 v2 rfl rfl
    simpa [Value.okWide, Try.underlying29] using this
  have k2 := h2
  have lt2 : ∀ x ∈ p2, x.block < W.heap.size := by obtain ⟨m, hm⟩ := k2; exact DataW.trod_lt m _ _ _ hm
  obtain ⟨fuel2, hf2⟩ := h2
  obtain ⟨pk2, hq2, _, _⟩ := open_pk hsz2 hf2
  clear hA0
  have HC := twice_any se0 S0 ep0 a1 l1 len1 cap1 pk2 W hl1 ho1 hn1
  rw [← hq0, ← hq2] at HC
  refine HC.mono fun e W' ⟨he, bel⟩ => ?_
  subst he
  exact ⟨_, rfl, _, _, _, [], _, [], hW', trodAll_mk1 (shut_bool Try.underlying4 _), (trodAll_cons_mk (Below.trod laidOut (by kernel_rfl) (of_decide_eq_true (by kernel_rfl)) k0 bel lt0) (trodAll_cons_mk (Below.trod laidOut (by kernel_rfl) (of_decide_eq_true (by kernel_rfl)) k1 bel lt1) (trodAll_cons_mk (Below.trod laidOut (by kernel_rfl) (of_decide_eq_true (by kernel_rfl)) k2 bel lt2) trodAll_mk0))), rfl, bel.frame _, fun h => by cases h⟩
theorem reads (os : Os) {H : Type} (enc : TypeId × Value → H) : ∃ places, DataW.whole enc Try.prog ((laidWorld Try.prog os).forCall (fun _ _ => 0) ⟨#[], #[.agg zeroBg, .slice none 0 0, .agg zeroArg], []⟩).memory Try.f3.params.toList Rows.viewTwiceSpec.vars false (#[.agg zeroBg, .slice none 0 0, .agg zeroArg] : Array Value).toList 8 = some ([zeroBgD, .nil, zeroDat], [], places) :=
  ⟨[], by kernel_rfl⟩

set_option maxRecDepth 100000 in
theorem lifted (os : Os) (started : os.Started) (H : Type) (enc : TypeId × Value → H) (F : Stop.Interp) :
    ReturnsInHanded {} Try.checked os 3 .any ((OpenSpec.ofChange Rows.viewTwiceSpec).preRow enc Try.prog Try.f3 Rows.viewTwiceRow.domain false Rows.viewTwiceRow.laid) (((OpenSpec.ofChange Rows.viewTwiceSpec).at F).post enc Try.prog Try.f3 false true false false) := by
  obtain ⟨places, hx⟩ := reads os enc
  refine returnsInHanded_of_row (C := Try.checked) (s := OpenSpec.ofChange Rows.viewTwiceSpec) own started (by kernel_rfl) Try.func3
    (witness_row_at (enc := enc) (C := Try.checked) false (laidWorld Try.prog os) #[.agg zeroBg, .slice none 0 0, .agg zeroArg] rfl (by kernel_rfl) (by kernel_rfl) (by kernel_rfl)
      (OpenSpec.preRow_of_cond 8 hx (by kernel_rfl) (fun k hk => by cases hk) (by kernel_rfl) (laid_met os _))) ?_
  intro W base args ds gs before hval hW _ hcond hsz hL _ _
  exact contract H enc W base args ds gs before hval hW hsz hL

theorem said : Rows.ViewTwiceSaid :=
  OpenClaim.holds_of_cond 3 Try.f3 rfl rfl rfl rfl rfl rfl rfl ⟨rfl, rfl, rfl, rfl, rfl⟩ rfl rfl rfl rfl rfl (by kernel_rfl) Try.func3 (by kernel_rfl)
    (of_decide_eq_true (by kernel_rfl)) (by unfold Func.isWrapper; first | (rw [if_pos (by decide +kernel)]; kernel_rfl) | (rw [if_neg (by decide +kernel)]; exact ⟨rfl, rfl⟩))
    (fun os started H enc _ F => by rw [OpenClaim.pre_eq_preRow]; exact lifted os started H enc F)


end Go.Proofs.Ytdicjnkbmlamgab.viewTwice
namespace Go.Proofs.Ytdicjnkbmlamgab
open Go
/-- THE STATEMENT -/
theorem viewTwice_holds : Rows.ViewTwiceSaid := viewTwice.said
#print axioms viewTwice_holds
end Go.Proofs.Ytdicjnkbmlamgab
