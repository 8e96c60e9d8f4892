/- LawAll, LawKeys, KeyspaceKeys. -/
import Derived.Test.YtoecokidooaaoaaGreatDoorM43
import Derived.Test.YtoecokidooaaoaaGreatDoorM42
import Derived.Deep.RegionHeld3
import Derived.Test.YtoecokidooaaoaaGreatDoorCards
import Derived.Test.YtoecokidooaaoaaGreatDoorTie
import Derived.ProofKit
import Derived.OpenShut
import Derived.ShutString
import Derived.ChangeMaps5
import Derived.ChangeOld
import Derived.RowKit
import Derived.Deep.DeepHandedRow
import Derived.SizedLaws
import Derived.Test.YtoecokidooaaoaaGreatDoorM44
namespace Go.Proofs.YtoecokidooaaoaaGreatDoor
open Go.RowKit

theorem Both.below {B : Nat} {w w' : World} {b : Nat} {O A P : Nat → Prop} {L : List EP} {room now : Int} {p : Option Addr} {c n : Nat} (h : Both B w b O A P L room now p c n) (k : Below w.heap.size w w') : Both B w' b O A P L room now p c n := by
  obtain ⟨k1, ⟨R, k2, k3⟩, k4⟩ := h
  exact ⟨k1.below k, ⟨R, k2.below k, k3⟩, k4⟩
set_option maxHeartbeats 4000000 in
set_option maxRecDepth 100000 in
theorem all_any {B : Nat} (hB0 : 0 < B) (w : World) (hT : Tab w) (hB : B ≤ w.heap.size) (room : Int) (p : Option Addr) (ops : List OpK) (cp : Nat) (hG : Given w p ops) :
    Calls Tryz.prog 3 #[.int .i64 room, .slice p ops.length cp] w fun e w' => e = .returned (.bool true) ∧ Hid (Below w.heap.size w w') := by
  have HAl := hid (fun W (h : Below w.heap.size w W) => alive_any hB0 W (hT.env h) (Nat.le_trans hB h.size))
  have hba := below_alloc w (sob none 0 0 0 0)
  cases hf : fewB ops with
  | false =>
    have HM := hid (fun W (h : Below w.heap.size w W) => begun_many hB0 W (hT.env h) (Nat.le_trans hB h.size) room p ops cp (hG.below h) hf)
    clear hT hG hba
    go_enter Tryz.func3, Tryz.ntmps3
    go_wp2_with fail
    refine (HM.out w (Below.refl _ _)).mono ?_; rintro e w1 ⟨rfl, hh⟩
    have HW2 := hid (hh.out.trans ((below_alloc w1 (sob none 0 0 room 0)).mono hh.out.size))
    have HR := hid (heap_alloc_new w1 (sob none 0 0 room 0))
    obtain ⟨r0, r1, r2⟩ := sp_facts HR.out
    clear hh
    go_wp2_with fail
    refine (HAl.out _ HW2.out).mono ?_; rintro e w3 ⟨rfl, hh⟩
    have HW3 := hid (HW2.out.trans (hh.out.mono HW2.out.size))
    clear hh
    go_wp2_with fail
    go_ret
    exact ⟨rfl, HW3.out⟩
  | true =>
    have HM := hid (fun W (h : Below w.heap.size w W) => begun_few hB0 W (hT.env h) (Nat.le_trans hB h.size) room p ops cp (hG.below h) hf)
    clear hT hG hba
    go_enter Tryz.func3, Tryz.ntmps3
    go_wp2_with fail
    refine (HM.out w (Below.refl _ _)).mono ?_; rintro e w1 ⟨b, q, d, rfl, hh⟩
    obtain ⟨O, A, hbo, -, hb1⟩ := hh.out
    generalize runL room ops = s at *
    obtain ⟨L, nw⟩ := s
    dsimp only at *
    have hba := below_alloc w1 (sob q L.length d room nw)
    have HW2 := hid (hb1.trans (hba.mono hb1.size))
    have HB2 := hid (hbo.below hba)
    have HR := hid (heap_alloc_new w1 (sob q L.length d room nw))
    obtain ⟨r0, r1, r2⟩ := sp_facts HR.out
    have hz : w1.heap.size < (w1.alloc (sob q L.length d room nw)).heap.size := by simp
    have HZ := hid hz
    clear hh hbo hb1 hba hz
    go_wp2_with fail
    refine (HAl.out _ HW2.out).mono ?_; rintro e w3 ⟨rfl, hh⟩
    have HW3 := hid (HW2.out.trans (hh.out.mono HW2.out.size))
    have HB3 := hid (HB2.out.below hh.out)
    obtain ⟨s0, s1, s2⟩ := sp_facts ((hh.out.block w1.heap.size HZ.out).trans HR.out)
    clear hh r0 r1 r2
    go_wp2_with fail
    refine (stands_any HB3.out).mono ?_; rintro e w4 ⟨rfl, hh⟩
    have HW4 := hid (HW3.out.trans (hh.out.mono HW3.out.size))
    clear hh
    go_wp2_with fail
    go_ret
    exact ⟨rfl, HW4.out⟩

end Go.Proofs.YtoecokidooaaoaaGreatDoor

namespace Go.Proofs.YtoecokidooaaoaaGreatDoor
open Go.RowKit

set_option maxHeartbeats 20000000 in
set_option maxRecDepth 100000 in
theorem keys_any {B : Nat} (hB0 : 0 < B) (w : World) (hT : Tab w) (hB : B ≤ w.heap.size) (p : Option Addr) (ops : List OpK) (cp : Nat) (n most : Int) (hG : Given w p ops) (hn : In64 n) :
    Calls Tryz.prog 4 #[.slice p ops.length cp, .int .i64 n, .int .i64 most] w fun e w' => e = .returned (.bool true) ∧ Hid (Below w.heap.size w w') := by
  have HAl := hid (fun W (h : Below w.heap.size w W) => alive_any hB0 W (hT.env h) (Nat.le_trans hB h.size))
  cases hf : fewB ops with
  | false =>
    have HM := hid (begun_many hB0 w hT hB 1073741824 p ops cp hG hf)
    clear hT hG hf
    go_enter Tryz.func4, Tryz.ntmps4
    go_wp2_with fail
    refine HM.out.mono ?_; rintro e w1 ⟨rfl, hh⟩
    have HW2 := hid (hh.out.trans ((below_alloc w1 (sob none 0 0 1073741824 0)).mono hh.out.size))
    have HR := hid (heap_alloc_new w1 (sob none 0 0 1073741824 0))
    obtain ⟨r0, r1, r2⟩ := sp_facts HR.out
    clear hh
    go_wp2_with fail
    refine (HAl.out _ HW2.out).mono ?_; rintro e w3 ⟨rfl, hh⟩
    have HW3 := hid (HW2.out.trans (hh.out.mono HW2.out.size))
    clear hh
    go_wp2_with fail
    go_ret
    exact ⟨rfl, HW3.out⟩
  | true =>
    have HM := hid (begun_few hB0 w hT hB 1073741824 p ops cp hG hf)
    clear hT hG hf
    go_enter Tryz.func4, Tryz.ntmps4
    go_wp2_with fail
    refine HM.out.mono ?_; rintro e w1 ⟨b, q, d, rfl, hh⟩
    obtain ⟨O, A, hbo, -, hb1⟩ := hh.out
    generalize runL 1073741824 ops = s at *
    obtain ⟨L, nw⟩ := s
    dsimp only at *
    have hba := below_alloc w1 (sob q L.length d 1073741824 nw)
    have HW2 := hid (hb1.trans (hba.mono hb1.size))
    have HB2 := hid (hbo.below hba)
    have HR := hid (heap_alloc_new w1 (sob q L.length d 1073741824 nw))
    obtain ⟨r0, r1, r2⟩ := sp_facts HR.out
    have hz : w1.heap.size < (w1.alloc (sob q L.length d 1073741824 nw)).heap.size := by simp
    have HZ := hid hz
    obtain ⟨hsp, ⟨R, hR, hm⟩, -⟩ := HB2.out
    have hlen := DoIs_len hm
    have hfine := hsp.fine
    have HLz : Hid (L.length ≤ 4096) := hfine.len
    have hok := ok_of hfine hm
    have hlz : (L.length : Int) ≤ 4096 := by have := hfine.len; omega
    have hsl : ((slotL n L).length : Int) ≤ 4096 := by
      have : (slotL n L).length ≤ L.length := by unfold slotL; rw [List.length_map]; exact List.length_filter_le _ _
      omega
    have HKl : Hid (∀ mo, (keysL n mo L).length ≤ 4096) := fun mo => by
      have : (keysL n mo L).length ≤ (slotL n L).length := by unfold keysL; rw [List.length_take]; exact Nat.min_le_right _ _
      omega
    have HKw : Hid ((keysL n (L.length : Int) L).length = (slotL n L).length) := by
      have : (slotL n L).length ≤ L.length := by unfold slotL; rw [List.length_map]; exact List.length_filter_le _ _
      show (keysL n (L.length : Int) L).length = _
      unfold keysL
      rw [List.length_take]
      omega
    have HQ0 := hid ((Below.refl (w1.alloc (sob q L.length d 1073741824 nw)).heap.size (w1.alloc (sob q L.length d 1073741824 nw))).drew)
    have HKy : Hid (∀ W, Below (w1.alloc (sob q L.length d 1073741824 nw)).heap.size (w1.alloc (sob q L.length d 1073741824 nw)) W → Calls Tryz.prog 12 #[ptr b, .int .i64 n, .int .i64 most] W fun e w' => ∃ q c, e = .returned (.slice q (keysL n most L).length c) ∧ Hid (Own W.heap.size w' (.slice q (keysL n most L).length c) (keysL n most L) ∧ Below W.heap.size W w')) := fun W hb => sp_keys (HB2.out.below hb).sp n most hn
    have HQK : Hid (∀ W, Below (w1.alloc (sob q L.length d 1073741824 nw)).heap.size (w1.alloc (sob q L.length d 1073741824 nw)) W → ∀ mo : Int, Calls Tryz.prog 13 #[sv q L.length d 1073741824 nw, .int .i64 n, .int .i64 mo] W fun e w' => ∃ q c, e = .returned (.slice q (keysL n mo L).length c) ∧ Hid (Own W.heap.size w' (.slice q (keysL n mo L).length c) (keysL n mo L) ∧ Below W.heap.size W w')) := fun W hb mo => by
      have := qkeys_any _ q d R 1073741824 nw n mo W (hR.below hb) (by have := HLz.out; omega) hok
      rw [keys_map, hm, hlen] at this
      exact this
    have HCo : Hid (∀ W, Below (w1.alloc (sob q L.length d 1073741824 nw)).heap.size (w1.alloc (sob q L.length d 1073741824 nw)) W → Calls Tryz.prog 14 #[ptr b, .int .i64 n] W fun e w' => e = .returned (.int .i64 (slotL n L).length) ∧ Hid (Below W.heap.size W w')) := fun W hb => sp_count (HB2.out.below hb).sp n hn
    have HQM := hid (fun W hb => HQK.out W hb most)
    have HQL : Hid (∀ W, Below (w1.alloc (sob q L.length d 1073741824 nw)).heap.size (w1.alloc (sob q L.length d 1073741824 nw)) W → Calls Tryz.prog 13 #[sv q L.length d 1073741824 nw, .int .i64 n, .int .i64 L.length] W fun e w' => ∃ q c, e = .returned (.slice q (slotL n L).length c) ∧ Hid (Below W.heap.size W w')) := fun W hb => (HQK.out W hb (L.length : Int)).mono fun e w' ⟨q, c, he, hh⟩ => ⟨q, c, by rw [he, HKw.out], hh.out.2⟩
    have HSm : Hid (∀ (W : World) q4 d4 q5 d5, Rd W q4 d4 (keysL n most L) → Rd W q5 d5 (keysL n most L) → Calls Tryz.prog 11 #[.slice q4 (keysL n most L).length d4, .slice q5 (keysL n most L).length d5] W fun e w' => e = .returned (.bool true) ∧ Hid (Below W.heap.size W w')) := fun W q4 d4 q5 d5 h4 h5 => by
      have := same_any q4 d4 q5 d5 (keysL n most L) (keysL n most L) W h4.strs h5.strs (Nat.le_trans (HKl.out most) (by decide))
      rw [decide_eq_true (rfl : keysL n most L = keysL n most L)] at this
      exact this
    have hkl : ((keysL n most L).length : Int) ≤ 4096 := by have := HKl.out most; omega
    clear HQK HKw HKl
    generalize (keysL n most L) = KK at *
    generalize (slotL n L) = SS at *
    clear hh hbo hb1 hba hz hsp hR hm hfine hok
    go_wp2_with fail
    generalize hU : w1.alloc (sob q L.length d 1073741824 nw) = U at *
    go_region_held3 (fun w' => w'.cell? ⟨w1.heap.size, 0, none⟩ = some (.slice q L.length d) ∧ w'.cell? ⟨w1.heap.size, 1, none⟩ = some (.int .i64 1073741824) ∧ w'.cell? ⟨w1.heap.size, 2, none⟩ = some (.int .i64 nw))
      (first | exact ⟨r0, r1, r2⟩ | exact ⟨s0, s1, s2⟩ | exact ⟨t0, t1, t2⟩ | exact ⟨x0, x1, x2⟩ | exact ⟨y0, y1, y2⟩ | exact ⟨z0, z1, z2⟩ | exact ⟨v0, v1, v2⟩ | go_keep)
      (first
        | (have _q := HU7.out; clear _q; go_at_call 13; (with_reducible refine (HQL.out _ HU7.out).mono ?_); rintro e w8 ⟨q8, d8, rfl, hh⟩; have HU8 := hid (HU7.out.trans (hh.out.mono HU7.out.size)); obtain ⟨v0, v1, v2⟩ := sp_facts ((HU8.out.block w1.heap.size HZ.out).trans HR.out); clear hh)
        | (go_at_call 9; (with_reducible refine (HAl.out _ (HW2.out.trans (HQ0.out.mono HW2.out.size))).mono ?_); rintro e w3 ⟨rfl, hh⟩; have HU3 := hid (HQ0.out.trans (hh.out.mono HQ0.out.size)); obtain ⟨s0, s1, s2⟩ := sp_facts ((HU3.out.block w1.heap.size HZ.out).trans HR.out); clear hh)
        | (go_at_call 12; (with_reducible refine (HKy.out _ HU3.out).mono ?_); rintro e w4 ⟨q4, d4, rfl, hh⟩; have HK4 := hid hh.out.1; have HU4 := hid (HU3.out.trans (hh.out.2.mono HU3.out.size)); obtain ⟨t0, t1, t2⟩ := sp_facts ((HU4.out.block w1.heap.size HZ.out).trans HR.out); clear hh)
        | (go_at_call 13; (with_reducible refine (HQM.out _ HU4.out).mono ?_); rintro e w5 ⟨q5, d5, rfl, hh⟩; have HK5 := hid hh.out.1; have HK45 := hid (HK4.out.rd.below hh.out.2); have HU5 := hid (HU4.out.trans (hh.out.2.mono HU4.out.size)); obtain ⟨x0, x1, x2⟩ := sp_facts ((HU5.out.block w1.heap.size HZ.out).trans HR.out); clear hh)
        | (go_at_call 11; (with_reducible refine (HSm.out _ q4 d4 q5 d5 HK45.out HK5.out.rd).mono ?_); rintro e w6 ⟨rfl, hh⟩; have HU6 := hid (HU5.out.trans (hh.out.mono HU5.out.size)); obtain ⟨y0, y1, y2⟩ := sp_facts ((HU6.out.block w1.heap.size HZ.out).trans HR.out); clear hh)
        | (go_at_call 14; (with_reducible refine (HCo.out _ HU6.out).mono ?_); rintro e w7 ⟨rfl, hh⟩; have HU7 := hid (HU6.out.trans (hh.out.mono HU6.out.size)); obtain ⟨z0, z1, z2⟩ := sp_facts ((HU7.out.block w1.heap.size HZ.out).trans HR.out); clear hh))
    all_goals (go_wp2_with fail; go_ret; exact ⟨rfl, HW2.out.trans (HU8.out.mono HW2.out.size)⟩)

end Go.Proofs.YtoecokidooaaoaaGreatDoor

namespace Go.Proofs.YtoecokidooaaoaaGreatDoor.keyspaceKeys
open Go.ChangeShapes Go.WideShapes Go.ChangeAt Go.RowKit
open Go.ChangeMaps (open_string shut_string)


theorem own : ownKnob Tryz.prog.godebug = none := by kernel_rfl
theorem laidOut : laidOutB Tryz.prog = true := by kernel_rfl
set_option maxRecDepth 100000 in
theorem contract (H : Type) (enc : TypeId × Value → H) (W : World) (base : Nat) (args : Array Value) (ds gs : List (DataW H)) (before : List MemPlace)
    (hval : ∀ (j : Nat) t v, Tryz.f4.params[j]? = some t → args[j]? = some v → Value.okWide Tryz.prog W .any base t v)
    (hW : DataW.Whole enc Tryz.prog Tryz.f4.params.toList Rows.keyspaceKeysSpec.vars false W args.toList ds gs before) (hsz0 : (DataW.weightsEach Tryz.prog (Tryz.f4.params.toList ++ Rows.keyspaceKeysSpec.plain.varTypes Tryz.prog) (ds ++ gs)).all (· ≤ reachBytes) = true) (hL : laidMetH Tryz.prog listed W) :
    Calls Tryz.prog 4 args W fun e W' => ∃ v, e = .returned v ∧ Rows.keyspaceKeysSpec.post enc Tryz.prog Tryz.f4 false true false false W args v W' := by
  have hW' := hW
  obtain ⟨p, q, hA0, hV, rfl, hfz, hnd⟩ := hW
  have hA : DataW.TrodAll enc Tryz.prog W 0 (fun _ => true) true Tryz.f4.params.toList args.toList ds p := hA0
  have hsz : (DataW.weightsEach Tryz.prog (Tryz.f4.params.toList ++ Rows.keyspaceKeysSpec.plain.varTypes Tryz.prog) (ds ++ gs)).all (· ≤ reachBytes) = true := hsz0
  clear hsz0
  rw [Tryz.params4] at hA hval hsz
  obtain ⟨v0, vs0, d0, ds0, p0, q0, hargs, rfl, rfl, h0, r0⟩ := trodAll_cons hA
  obtain ⟨v1, vs1, d1, ds1, p1, q1, rfl, rfl, rfl, h1, r1⟩ := trodAll_cons r0
  obtain ⟨v2, vs2, d2, ds2, p2, q2, rfl, rfl, rfl, h2, r2⟩ := trodAll_cons r1
  obtain ⟨rfl, rfl, rfl⟩ := trodAll_nil r2
  obtain rfl : args = #[v0, v1, v2] := by cases args; simp_all
  obtain ⟨rfl, rfl⟩ := trodVars_none hV
  obtain ⟨a0, len0, cap0, rfl⟩ := okWide_slice Tryz.underlying22 (hval 0 22 v0 rfl rfl)
  have k0 := h0
  have lt0 : ∀ x ∈ p0, x.block < W.heap.size := by obtain ⟨m, hm⟩ := k0; exact DataW.trod_lt m _ _ _ hm
  obtain ⟨l0, hl0, hs0⟩ : ∃ l : List OpK, l.length = len0 ∧ Given W a0 l := by
    obtain ⟨m, hm⟩ := h0
    exact open_ops hm (fun n hn => by
      have h : decide (n ≤ reachBytes) = true := List.all_eq_true.1 hsz _ (DataW.weights_mem_each (j := 0) (t := 22) (d := d0) rfl rfl _ hn)
      have h' := of_decide_eq_true h
      simpa [reachBytes] using h')
  subst hl0
  obtain ⟨a1, rfl, rfl, rfl, w1⟩ := open_int Tryz.underlying3 (hval 1 3 v1 rfl rfl) h1
  have bd1 := bounds_i64 w1
  obtain ⟨a2, rfl, rfl, rfl, w2⟩ := open_int Tryz.underlying3 (hval 2 3 v2 rfl rfl) h2
  clear hA0
  have hT := env_of hL
  refine (keys_any (tab_lt hT) W hT (Nat.le_refl _) a0 l0 cap0 a1 a2  hs0 bd1).mono fun e W' ⟨he, bel⟩ => ?_
  subst he
  exact ⟨_, rfl, _, _, _, [], _, [], hW', trodAll_mk1 (shut_bool Tryz.underlying4 _), (trodAll_cons_mk (Below.trod laidOut (by kernel_rfl) (of_decide_eq_true (by kernel_rfl)) k0 bel lt0) (trodAll_cons_mk (shut_int Tryz.underlying3 w1) (trodAll_cons_mk (shut_int Tryz.underlying3 w2) trodAll_mk0))), rfl, bel.frame _, fun h => by cases h⟩
theorem reads (os : Os) {H : Type} (enc : TypeId × Value → H) : ∃ places, DataW.whole enc Tryz.prog ((laidWorld Tryz.prog os).forCall (fun _ _ => 0) ⟨#[], #[.slice none 0 0, .int .i64 0, .int .i64 0], []⟩).memory Tryz.f4.params.toList Rows.keyspaceKeysSpec.vars false (#[.slice none 0 0, .int .i64 0, .int .i64 0] : Array Value).toList 8 = some ([.nil, .lit (.int .i64 0), .lit (.int .i64 0)], [], places) :=
  ⟨[], by kernel_rfl⟩

set_option maxRecDepth 100000 in
theorem lifted (os : Os) (started : os.Started) (H : Type) (enc : TypeId × Value → H) (F : Stop.Interp) :
    ReturnsInHanded {} Tryz.checked os 4 .any ((OpenSpec.ofChange Rows.keyspaceKeysSpec).preRow enc Tryz.prog Tryz.f4 Rows.keyspaceKeysRow.domain false Rows.keyspaceKeysRow.laid) (((OpenSpec.ofChange Rows.keyspaceKeysSpec).at F).post enc Tryz.prog Tryz.f4 false true false false) := by
  obtain ⟨places, hx⟩ := reads os enc
  refine returnsInHanded_of_row (C := Tryz.checked) (s := OpenSpec.ofChange Rows.keyspaceKeysSpec) own started (by kernel_rfl) Tryz.func4
    (witness_row_at (enc := enc) (C := Tryz.checked) false (laidWorld Tryz.prog os) #[.slice none 0 0, .int .i64 0, .int .i64 0] rfl (by kernel_rfl) (by kernel_rfl) (by kernel_rfl)
      (OpenSpec.preRow_of_cond 8 hx (by kernel_rfl) (fun k hk => by cases hk) (by kernel_rfl) (laid_met os _))) ?_
  intro W base args ds gs before hval hW _ hcond hsz hL _ _
  exact contract H enc W base args ds gs before hval hW hsz hL

theorem said : Rows.KeyspaceKeysSaid :=
  OpenClaim.holds_of_cond 4 Tryz.f4 rfl rfl rfl rfl rfl rfl rfl ⟨rfl, rfl, rfl, rfl, rfl⟩ rfl rfl rfl rfl rfl (by kernel_rfl) Tryz.func4 (by kernel_rfl)
    (of_decide_eq_true (by kernel_rfl)) (by unfold Func.isWrapper; first | (rw [if_pos (by decide +kernel)]; kernel_rfl) | (rw [if_neg (by decide +kernel)]; exact ⟨rfl, rfl⟩))
    (fun os started H enc _ F => by rw [OpenClaim.pre_eq_preRow]; exact lifted os started H enc F)

theorem plain (f : FuncId) (fn : Func) (hf : Tryz.pinned.checked.prog.funcNamed "marshalyard/marshalyardlaw11.KeyspaceKeys" = some f) (hfn : Tryz.pinned.checked.prog.funcs[f]? = some fn) :
    true = Tryz.pinned.checked.prog.looks [] ∧ ∀ (j : Nat) t, fn.params[j]? = some t → Tryz.pinned.checked.prog.wantsStandIn t = false := by
  obtain rfl : f = 4 := Option.some.inj ((show Tryz.prog.funcNamed "marshalyard/marshalyardlaw11.KeyspaceKeys" = some 4 by kernel_rfl).symm.trans hf) |>.symm
  obtain rfl : fn = Tryz.f4 := (Option.some.inj (Tryz.func4.symm.trans hfn)).symm
  refine ⟨by kernel_rfl, fun j t ht => ?_⟩
  rw [Tryz.params4] at ht
  have hm : t = 22 ∨ t = 3 := by simpa using Array.mem_of_getElem? ht
  rcases hm with rfl | rfl
  · exact (show Tryz.prog.wantsStandIn 22 = false by kernel_rfl)
  · exact (show Tryz.prog.wantsStandIn 3 = false by kernel_rfl)

end Go.Proofs.YtoecokidooaaoaaGreatDoor.keyspaceKeys
namespace Go.Proofs.YtoecokidooaaoaaGreatDoor
open Go
/-- THE CARD -/
theorem keyspaceKeys_card : Rows.KeyspaceKeysCardSaid :=
  Claim7.holds_tied_plain_at .later [] _ _ _ _ keyspaceKeys.said (fun _ h => by cases h) (by kernel_rfl) (fun _ h => by cases h) keyspaceKeys_row_tie rfl ⟨rfl, rfl⟩ (by kernel_rfl) rfl keyspaceKeys.plain (by kernel_rfl)
#print axioms keyspaceKeys_card
end Go.Proofs.YtoecokidooaaoaaGreatDoor
