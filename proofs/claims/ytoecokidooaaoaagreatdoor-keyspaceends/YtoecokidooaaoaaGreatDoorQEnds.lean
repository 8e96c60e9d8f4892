/- LawAll, LawEnds, KeyspaceEnds. -/
import Derived.Test.YtoecokidooaaoaaGreatDoorM43
import Derived.Test.YtoecokidooaaoaaGreatDoorM42
import Derived.Test.YtoecokidooaaoaaGreatDoorCards
import Derived.Test.YtoecokidooaaoaaGreatDoorTie
import Derived.ProofKit
import Derived.OpenShut
import Derived.ShutString
import Derived.ChangeMaps5
import Derived.ChangeOld
import Derived.RowKit
import Derived.Deep.DeepHandedRow
import Derived.SizedLaws
import Derived.Test.YtoecokidooaaoaaGreatDoorM44
namespace Go.Proofs.YtoecokidooaaoaaGreatDoor
open Go.RowKit

theorem Both.below {B : Nat} {w w' : World} {b : Nat} {O A P : Nat → Prop} {L : List EP} {room now : Int} {p : Option Addr} {c n : Nat} (h : Both B w b O A P L room now p c n) (k : Below w.heap.size w w') : Both B w' b O A P L room now p c n := by
  obtain ⟨k1, ⟨R, k2, k3⟩, k4⟩ := h
  exact ⟨k1.below k, ⟨R, k2.below k, k3⟩, k4⟩
set_option maxHeartbeats 4000000 in
set_option maxRecDepth 100000 in
theorem all_any {B : Nat} (hB0 : 0 < B) (w : World) (hT : Tab w) (hB : B ≤ w.heap.size) (room : Int) (p : Option Addr) (ops : List OpK) (cp : Nat) (hG : Given w p ops) :
    Calls Tryz.prog 3 #[.int .i64 room, .slice p ops.length cp] w fun e w' => e = .returned (.bool true) ∧ Hid (Below w.heap.size w w') := by
  have HAl := hid (fun W (h : Below w.heap.size w W) => alive_any hB0 W (hT.env h) (Nat.le_trans hB h.size))
  have hba := below_alloc w (sob none 0 0 0 0)
  cases hf : fewB ops with
  | false =>
    have HM := hid (fun W (h : Below w.heap.size w W) => begun_many hB0 W (hT.env h) (Nat.le_trans hB h.size) room p ops cp (hG.below h) hf)
    clear hT hG hba
    go_enter Tryz.func3, Tryz.ntmps3
    go_wp2_with fail
    refine (HM.out w (Below.refl _ _)).mono ?_; rintro e w1 ⟨rfl, hh⟩
    have HW2 := hid (hh.out.trans ((below_alloc w1 (sob none 0 0 room 0)).mono hh.out.size))
    have HR := hid (heap_alloc_new w1 (sob none 0 0 room 0))
    obtain ⟨r0, r1, r2⟩ := sp_facts HR.out
    clear hh
    go_wp2_with fail
    refine (HAl.out _ HW2.out).mono ?_; rintro e w3 ⟨rfl, hh⟩
    have HW3 := hid (HW2.out.trans (hh.out.mono HW2.out.size))
    clear hh
    go_wp2_with fail
    go_ret
    exact ⟨rfl, HW3.out⟩
  | true =>
    have HM := hid (fun W (h : Below w.heap.size w W) => begun_few hB0 W (hT.env h) (Nat.le_trans hB h.size) room p ops cp (hG.below h) hf)
    clear hT hG hba
    go_enter Tryz.func3, Tryz.ntmps3
    go_wp2_with fail
    refine (HM.out w (Below.refl _ _)).mono ?_; rintro e w1 ⟨b, q, d, rfl, hh⟩
    obtain ⟨O, A, hbo, -, hb1⟩ := hh.out
    generalize runL room ops = s at *
    obtain ⟨L, nw⟩ := s
    dsimp only at *
    have hba := below_alloc w1 (sob q L.length d room nw)
    have HW2 := hid (hb1.trans (hba.mono hb1.size))
    have HB2 := hid (hbo.below hba)
    have HR := hid (heap_alloc_new w1 (sob q L.length d room nw))
    obtain ⟨r0, r1, r2⟩ := sp_facts HR.out
    have hz : w1.heap.size < (w1.alloc (sob q L.length d room nw)).heap.size := by simp
    have HZ := hid hz
    clear hh hbo hb1 hba hz
    go_wp2_with fail
    refine (HAl.out _ HW2.out).mono ?_; rintro e w3 ⟨rfl, hh⟩
    have HW3 := hid (HW2.out.trans (hh.out.mono HW2.out.size))
    have HB3 := hid (HB2.out.below hh.out)
    obtain ⟨s0, s1, s2⟩ := sp_facts ((hh.out.block w1.heap.size HZ.out).trans HR.out)
    clear hh r0 r1 r2
    go_wp2_with fail
    refine (stands_any HB3.out).mono ?_; rintro e w4 ⟨rfl, hh⟩
    have HW4 := hid (HW3.out.trans (hh.out.mono HW3.out.size))
    clear hh
    go_wp2_with fail
    go_ret
    exact ⟨rfl, HW4.out⟩

end Go.Proofs.YtoecokidooaaoaaGreatDoor

namespace Go.Proofs.YtoecokidooaaoaaGreatDoor
open Go.RowKit

set_option maxHeartbeats 8000000 in
set_option maxRecDepth 100000 in
theorem ends_any {B : Nat} (hB0 : 0 < B) (w : World) (hT : Tab w) (hB : B ≤ w.heap.size) (p : Option Addr) (ops : List OpK) (cp : Nat) (t : Int) (hG : Given w p ops) :
    Calls Tryz.prog 5 #[.slice p ops.length cp, .int .i64 t] w fun e w' => e = .returned (.bool true) ∧ Hid (Below w.heap.size w w') := by
  have HAl := hid (fun W (h : Below w.heap.size w W) => alive_any hB0 W (hT.env h) (Nat.le_trans hB h.size))
  cases hf : fewB ops with
  | false =>
    have HM := hid (begun_many hB0 w hT hB 1073741824 p ops cp hG hf)
    clear hT hG hf
    go_enter Tryz.func5, Tryz.ntmps5
    go_wp2_with fail
    refine HM.out.mono ?_; rintro e w1 ⟨rfl, hh⟩
    have HW2 := hid (hh.out.trans ((below_alloc w1 (sob none 0 0 1073741824 0)).mono hh.out.size))
    have HR := hid (heap_alloc_new w1 (sob none 0 0 1073741824 0))
    obtain ⟨r0, r1, r2⟩ := sp_facts HR.out
    clear hh
    go_wp2_with fail
    refine (HAl.out _ HW2.out).mono ?_; rintro e w3 ⟨rfl, hh⟩
    have HW3 := hid (HW2.out.trans (hh.out.mono HW2.out.size))
    clear hh
    go_wp2_with fail
    go_ret
    exact ⟨rfl, HW3.out⟩
  | true =>
    have HM := hid (begun_few hB0 w hT hB 1073741824 p ops cp hG hf)
    clear hT hG hf
    go_enter Tryz.func5, Tryz.ntmps5
    go_wp2_with fail
    refine HM.out.mono ?_; rintro e w1 ⟨b, q, d, rfl, hh⟩
    obtain ⟨O, A, hbo, hA, hb1⟩ := hh.out
    generalize runL 1073741824 ops = s at *
    obtain ⟨L, nw⟩ := s
    dsimp only at *
    have hba := below_alloc w1 (sob q L.length d 1073741824 nw)
    have HW2 := hid (hb1.trans (hba.mono hb1.size))
    have HB2 := hid (hbo.below hba)
    have HA2 := hid hA
    have HR := hid (heap_alloc_new w1 (sob q L.length d 1073741824 nw))
    obtain ⟨r0, r1, r2⟩ := sp_facts HR.out
    have hz : w1.heap.size < (w1.alloc (sob q L.length d 1073741824 nw)).heap.size := by simp
    have HZ := hid hz
    have HTk := hid (sp_tick (hbo.below hba).sp t)
    have HNa : Hid (¬ A w1.heap.size) := fun h => by have := (hbo.sp.lt _ h).2; omega
    clear hh hbo hb1 hba hz hA
    go_wp2_with fail
    refine HTk.out.mono ?_; rintro e w3 ⟨rfl, hh⟩
    obtain ⟨O', A', hS3, hst⟩ := hh.out
    obtain ⟨hsp, ⟨R, hR, hm⟩, -⟩ := HB2.out
    have HW3 : Hid (Below w.heap.size w w3) := ⟨hst.keep.os.trans HW2.out.os, hst.keep.tape.trans HW2.out.tape, hst.keep.output.trans HW2.out.output, Nat.le_trans HW2.out.size hst.keep.size, fun k hk => (hst.keep.block k (Nat.lt_of_lt_of_le hk HW2.out.size) (fun ho => by have := (HA2.out k (hsp.sub k ho)).1; omega)).trans (HW2.out.block k hk)⟩
    have HR3 := hid ((hst.keep.block w1.heap.size HZ.out (fun ho => HNa.out (hsp.sub _ ho))).trans HR.out)
    have hR3 : Rde (fun j => ¬ O' j ∧ j < w3.heap.size) w3 q d R := hR.keepB (hst.keep.mono (fun k hk => hk.1)) (fun i hi hp => ⟨fun ho => by
      rcases hst.o i ho with h | h
      · exact hp.1 h
      · omega, Nat.lt_of_lt_of_le hi hst.keep.size⟩)
    have HS3 := hid hS3
    have HRd3 := hid hR3
    have HM3 := hid hm
    have hlen := DoIs_len hm
    have hfine := hsp.fine
    have hlz : (L.length : Int) ≤ 4096 := by have := hfine.len; omega
    have HQ := qtick_at _ q d R 1073741824 nw t (tickN nw t) w3 hR3 (by have := hfine.len; omega) (by unfold tickN; omega)
    have hmR : (tickR (tickN nw t) R).map pr8 = tickL (tickN nw t) L := by rw [tick_map, hm]
    have hlR := DoIs_len hmR
    rw [hlen, hlR] at HQ
    have HQ := hid HQ
    have HMR := hid hmR
    have HTle : Hid (∀ x : Int, x ≤ 1099511627776 → tickN nw t < x → ¬ x ≤ t) := fun x h1 h2 => by unfold tickN at h2; omega
    have HFn := hid hS3.fine
    have hlz' : ((tickL (tickN nw t) L).length : Int) ≤ 4096 := by have := hS3.fine.len; omega
    obtain ⟨s0, s1, s2⟩ := sp_facts HR3.out
    generalize tickL (tickN nw t) L = L' at *
    generalize (L.length : Int) - (L'.length : Int) = EE at *
    generalize tickN nw t = T at *
    clear hh hS3 hst hsp hR hm hR3 hfine hmR hlR
    go_wp2_with fail
    refine HQ.out.mono ?_; rintro e w4 ⟨q4, d4, rfl, hh⟩
    have hba := below_alloc w4 (sob q4 L'.length d4 1073741824 T)
    have HW5 := hid ((HW3.out.trans (hh.out.2.mono HW3.out.size)).trans (hba.mono (Nat.le_trans HW3.out.size hh.out.2.size)))
    have HB5 : Hid (Both B (w4.alloc (sob q4 L'.length d4 1073741824 T)) b O' A' (fun _ => True) L' 1073741824 T q4 d4 L'.length) := ⟨(HS3.out.below hh.out.2).below hba, ⟨_, (hh.out.1.keepB (Q := fun j => ¬ O' j ∧ True) (Keep.refl _ _) (fun i hi hp => ⟨fun ho => by
      rcases hp with hp | hp
      · exact hp.1 ho
      · have := (HS3.out.lt i (HS3.out.sub i ho)).2; omega, trivial⟩)).below hba, HMR.out⟩, rfl⟩
    have HR5 := hid (heap_alloc_new w4 (sob q4 L'.length d4 1073741824 T))
    have hz5 : w4.heap.size < (w4.alloc (sob q4 L'.length d4 1073741824 T)).heap.size := by simp
    have HZ5 := hid hz5
    clear hh hba hz5 s0 s1 s2
    obtain ⟨s0, s1, s2⟩ := sp_facts HR5.out
    go_wp2_with fail
    refine (sp_all HB5.out.sp).mono ?_; rintro e w6 ⟨q6, d6, rfl, hh⟩
    obtain ⟨S6, hS6, hm6, hb6⟩ := hh.out
    have HW6 := hid (HW5.out.trans (hb6.mono HW5.out.size))
    have HU6 := hid hb6
    have HS6 := hid hS6
    have HM6 := hid hm6
    have hl6 := DoIs_len hm6
    clear hh hS6 hm6 hb6 s0 s1 s2 r0 r1 r2
    go_wp2_with fail
    go_loopw [40] (fun v40 W => ∃ i : Nat, v40 = .int .i64 i ∧ i ≤ L'.length ∧ Hid (Below w6.heap.size w6 W)) (fun v40 _ => L'.length - (intOf v40).toNat)
    case atStart => exact ⟨0, rfl, Nat.zero_le _, Below.refl _ _⟩
    case round =>
      obtain ⟨i, rfl, hi, HV⟩ := hrel
      by_cases hlt : i < L'.length
      · have hiz : (i : Int) < (L'.length : Int) := by omega
        have hi6 : i < S6.length := by omega
        obtain ⟨g, o, rfl, -, hgl, z0, z1, z2, z3, z4, z5, z6, z7⟩ := (HS6.out.below HV.out).facts i hi6
        have hmem : pr8 S6[i] ∈ L' := by rw [← HM6.out]; exact List.mem_map_of_mem (List.getElem_mem hi6)
        have hlv := HFn.out.live _ hmem
        have hgd := (HFn.out.good _ hmem).2.2
        clear hmem
        generalize S6[i] = y at *
        dsimp only at hlv hgd
        have HB7 := hid (HV.out.trans ((below_alloc wr (eob y)).mono HV.out.size))
        obtain ⟨c0, c1, c2, c3, c4, c5, c6, c7⟩ := ent_facts (ent_new wr y)
        by_cases hy0 : y.ends = 0
        · have h0 : ¬ 0 < y.ends := by omega
          clear hlv hgd hy0
          go_wp2_with fail
          exact ⟨⟨i + 1, by go_num, by omega, HB7⟩, by simp [intOf]; omega⟩
        · have h0 : 0 < y.ends := by omega
          have h1 : t < y.ends := by have := HTle.out _ hgd.2 (hlv.resolve_left hy0); omega
          clear hlv hgd hy0
          go_wp2_with fail
          exact ⟨⟨i + 1, by go_num, by omega, HB7⟩, by simp [intOf]; omega⟩
      · obtain rfl : i = L'.length := by omega
        have HWr := hid (HW6.out.trans (HV.out.mono HW6.out.size))
        have HUr := hid (HU6.out.trans (HV.out.mono HU6.out.size))
        have HBr := hid (HB5.out.below HUr.out)
        have HRr := hid ((HUr.out.block w4.heap.size HZ5.out).trans HR5.out)
        obtain ⟨r0, r1, r2⟩ := sp_facts HRr.out
        go_wp2_with fail
        refine (HAl.out _ HWr.out).mono ?_; rintro e w7 ⟨rfl, hh⟩
        have HW7 := hid (HWr.out.trans (hh.out.mono HWr.out.size))
        have HB7 := hid (HBr.out.below hh.out)
        have hz7 : w4.heap.size < wr.heap.size := (Array.getElem?_eq_some_iff.1 HRr.out).1
        obtain ⟨t0, t1, t2⟩ := sp_facts ((hh.out.block w4.heap.size hz7).trans HRr.out)
        clear hh r0 r1 r2
        go_wp2_with fail
        refine (stands_any HB7.out).mono ?_; rintro e w8 ⟨rfl, hh⟩
        have HW8 := hid (HW7.out.trans (hh.out.mono HW7.out.size))
        clear hh
        go_wp2_with fail
        go_ret
        exact ⟨rfl, HW8.out⟩

end Go.Proofs.YtoecokidooaaoaaGreatDoor

namespace Go.Proofs.YtoecokidooaaoaaGreatDoor.keyspaceEnds
open Go.ChangeShapes Go.WideShapes Go.ChangeAt Go.RowKit
open Go.ChangeMaps (open_string shut_string)


theorem own : ownKnob Tryz.prog.godebug = none := by kernel_rfl
theorem laidOut : laidOutB Tryz.prog = true := by kernel_rfl
set_option maxRecDepth 100000 in
theorem contract (H : Type) (enc : TypeId × Value → H) (W : World) (base : Nat) (args : Array Value) (ds gs : List (DataW H)) (before : List MemPlace)
    (hval : ∀ (j : Nat) t v, Tryz.f5.params[j]? = some t → args[j]? = some v → Value.okWide Tryz.prog W .any base t v)
    (hW : DataW.Whole enc Tryz.prog Tryz.f5.params.toList Rows.keyspaceEndsSpec.vars false W args.toList ds gs before) (hsz0 : (DataW.weightsEach Tryz.prog (Tryz.f5.params.toList ++ Rows.keyspaceEndsSpec.plain.varTypes Tryz.prog) (ds ++ gs)).all (· ≤ reachBytes) = true) (hL : laidMetH Tryz.prog listed W) :
    Calls Tryz.prog 5 args W fun e W' => ∃ v, e = .returned v ∧ Rows.keyspaceEndsSpec.post enc Tryz.prog Tryz.f5 false true false false W args v W' := by
  have hW' := hW
  obtain ⟨p, q, hA0, hV, rfl, hfz, hnd⟩ := hW
  have hA : DataW.TrodAll enc Tryz.prog W 0 (fun _ => true) true Tryz.f5.params.toList args.toList ds p := hA0
  have hsz : (DataW.weightsEach Tryz.prog (Tryz.f5.params.toList ++ Rows.keyspaceEndsSpec.plain.varTypes Tryz.prog) (ds ++ gs)).all (· ≤ reachBytes) = true := hsz0
  clear hsz0
  rw [Tryz.params5] at hA hval hsz
  obtain ⟨v0, vs0, d0, ds0, p0, q0, hargs, rfl, rfl, h0, r0⟩ := trodAll_cons hA
  obtain ⟨v1, vs1, d1, ds1, p1, q1, rfl, rfl, rfl, h1, r1⟩ := trodAll_cons r0
  obtain ⟨rfl, rfl, rfl⟩ := trodAll_nil r1
  obtain rfl : args = #[v0, v1] := by cases args; simp_all
  obtain ⟨rfl, rfl⟩ := trodVars_none hV
  obtain ⟨a0, len0, cap0, rfl⟩ := okWide_slice Tryz.underlying22 (hval 0 22 v0 rfl rfl)
  have k0 := h0
  have lt0 : ∀ x ∈ p0, x.block < W.heap.size := by obtain ⟨m, hm⟩ := k0; exact DataW.trod_lt m _ _ _ hm
  obtain ⟨l0, hl0, hs0⟩ : ∃ l : List OpK, l.length = len0 ∧ Given W a0 l := by
    obtain ⟨m, hm⟩ := h0
    exact open_ops hm (fun n hn => by
      have h : decide (n ≤ reachBytes) = true := List.all_eq_true.1 hsz _ (DataW.weights_mem_each (j := 0) (t := 22) (d := d0) rfl rfl _ hn)
      have h' := of_decide_eq_true h
      simpa [reachBytes] using h')
  subst hl0
  obtain ⟨a1, rfl, rfl, rfl, w1⟩ := open_int Tryz.underlying3 (hval 1 3 v1 rfl rfl) h1
  clear hA0
  have hT := env_of hL
  refine (ends_any (tab_lt hT) W hT (Nat.le_refl _) a0 l0 cap0 a1  hs0).mono fun e W' ⟨he, bel⟩ => ?_
  subst he
  exact ⟨_, rfl, _, _, _, [], _, [], hW', trodAll_mk1 (shut_bool Tryz.underlying4 _), (trodAll_cons_mk (Below.trod laidOut (by kernel_rfl) (of_decide_eq_true (by kernel_rfl)) k0 bel lt0) (trodAll_cons_mk (shut_int Tryz.underlying3 w1) trodAll_mk0)), rfl, bel.frame _, fun h => by cases h⟩
theorem reads (os : Os) {H : Type} (enc : TypeId × Value → H) : ∃ places, DataW.whole enc Tryz.prog ((laidWorld Tryz.prog os).forCall (fun _ _ => 0) ⟨#[], #[.slice none 0 0, .int .i64 0], []⟩).memory Tryz.f5.params.toList Rows.keyspaceEndsSpec.vars false (#[.slice none 0 0, .int .i64 0] : Array Value).toList 8 = some ([.nil, .lit (.int .i64 0)], [], places) :=
  ⟨[], by kernel_rfl⟩

set_option maxRecDepth 100000 in
theorem lifted (os : Os) (started : os.Started) (H : Type) (enc : TypeId × Value → H) (F : Stop.Interp) :
    ReturnsInHanded {} Tryz.checked os 5 .any ((OpenSpec.ofChange Rows.keyspaceEndsSpec).preRow enc Tryz.prog Tryz.f5 Rows.keyspaceEndsRow.domain false Rows.keyspaceEndsRow.laid) (((OpenSpec.ofChange Rows.keyspaceEndsSpec).at F).post enc Tryz.prog Tryz.f5 false true false false) := by
  obtain ⟨places, hx⟩ := reads os enc
  refine returnsInHanded_of_row (C := Tryz.checked) (s := OpenSpec.ofChange Rows.keyspaceEndsSpec) own started (by kernel_rfl) Tryz.func5
    (witness_row_at (enc := enc) (C := Tryz.checked) false (laidWorld Tryz.prog os) #[.slice none 0 0, .int .i64 0] rfl (by kernel_rfl) (by kernel_rfl) (by kernel_rfl)
      (OpenSpec.preRow_of_cond 8 hx (by kernel_rfl) (fun k hk => by cases hk) (by kernel_rfl) (laid_met os _))) ?_
  intro W base args ds gs before hval hW _ hcond hsz hL _ _
  exact contract H enc W base args ds gs before hval hW hsz hL

theorem said : Rows.KeyspaceEndsSaid :=
  OpenClaim.holds_of_cond 5 Tryz.f5 rfl rfl rfl rfl rfl rfl rfl ⟨rfl, rfl, rfl, rfl, rfl⟩ rfl rfl rfl rfl rfl (by kernel_rfl) Tryz.func5 (by kernel_rfl)
    (of_decide_eq_true (by kernel_rfl)) (by unfold Func.isWrapper; first | (rw [if_pos (by decide +kernel)]; kernel_rfl) | (rw [if_neg (by decide +kernel)]; exact ⟨rfl, rfl⟩))
    (fun os started H enc _ F => by rw [OpenClaim.pre_eq_preRow]; exact lifted os started H enc F)

theorem plain (f : FuncId) (fn : Func) (hf : Tryz.pinned.checked.prog.funcNamed "marshalyard/marshalyardlaw11.KeyspaceEnds" = some f) (hfn : Tryz.pinned.checked.prog.funcs[f]? = some fn) :
    true = Tryz.pinned.checked.prog.looks [] ∧ ∀ (j : Nat) t, fn.params[j]? = some t → Tryz.pinned.checked.prog.wantsStandIn t = false := by
  obtain rfl : f = 5 := Option.some.inj ((show Tryz.prog.funcNamed "marshalyard/marshalyardlaw11.KeyspaceEnds" = some 5 by kernel_rfl).symm.trans hf) |>.symm
  obtain rfl : fn = Tryz.f5 := (Option.some.inj (Tryz.func5.symm.trans hfn)).symm
  refine ⟨by kernel_rfl, fun j t ht => ?_⟩
  rw [Tryz.params5] at ht
  have hm : t = 22 ∨ t = 3 := by simpa using Array.mem_of_getElem? ht
  rcases hm with rfl | rfl
  · exact (show Tryz.prog.wantsStandIn 22 = false by kernel_rfl)
  · exact (show Tryz.prog.wantsStandIn 3 = false by kernel_rfl)

end Go.Proofs.YtoecokidooaaoaaGreatDoor.keyspaceEnds
namespace Go.Proofs.YtoecokidooaaoaaGreatDoor
open Go
/-- THE CARD -/
theorem keyspaceEnds_card : Rows.KeyspaceEndsCardSaid :=
  Claim7.holds_tied_plain_at .later [] _ _ _ _ keyspaceEnds.said (fun _ h => by cases h) (by kernel_rfl) (fun _ h => by cases h) keyspaceEnds_row_tie rfl ⟨rfl, rfl⟩ (by kernel_rfl) rfl keyspaceEnds.plain (by kernel_rfl)
#print axioms keyspaceEnds_card
end Go.Proofs.YtoecokidooaaoaaGreatDoor
