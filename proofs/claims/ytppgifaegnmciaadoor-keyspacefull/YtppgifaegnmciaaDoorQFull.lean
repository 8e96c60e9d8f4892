/- LawFull, KeyspaceFull. -/
import Derived.Laws.IdiomStrings
import Derived.Test.YtppgifaegnmciaaDoorM42
import Derived.Test.YtppgifaegnmciaaDoorM44
import Derived.Test.YtppgifaegnmciaaDoorCards
import Derived.Test.YtppgifaegnmciaaDoorTie
import Derived.ProofKit
import Derived.OpenShut
import Derived.ShutString
import Derived.ChangeMaps5
import Derived.ChangeOld
import Derived.RowKit
import Derived.Deep.DeepHandedRow
import Derived.SizedLaws
import Derived.Test.YtppgifaegnmciaaDoorM45
namespace Go.Proofs.YtppgifaegnmciaaDoor
open Go.RowKit

/-- a call leaves alone what lies below the space's blocks -/
theorem Stp.under {N : Nat} {w w' : World} {O O' A A' : Nat → Prop} (h : Stp w w' O O' A A') (hA : ∀ k, A k → N ≤ k) (hs : ∀ k, O k → A k) (hN : N ≤ w.heap.size) : Below N w w' ∧ ∀ k, A' k → N ≤ k :=
  ⟨⟨h.keep.os, h.keep.tape, h.keep.output, h.keep.size, fun k hk => h.keep.block k (by omega) (fun ho => by have := hA k (hs k ho); omega)⟩, fun k hk => by
    rcases h.a k hk with h1 | h1
    · exact hA k h1
    · omega⟩
theorem conv_key (i : Nat) (hi : i < 65536) (w : World) : (convert 28 9 (.slice (some ⟨w.heap.size, 0, none⟩) 2 2)).run Tryd.prog (w.alloc (.cells #[.int .u8 ((i : Int) % 256), .int .u8 ((i : Int) / 256)] 5)) = .ok (txt (fkey i)) (w.alloc (.cells #[.int .u8 ((i : Int) % 256), .int .u8 ((i : Int) / 256)] 5)) :=
  run_convert_bytes_back (P := Tryd.prog) _ 28 9 5 ⟨w.heap.size, 0, none⟩ 2 (fkey i) Tryd.underlying28 Tryd.underlying5 Tryd.underlying9 (fun j hj => by
    have hj3 : j < 2 := hj
    rw [Go.WideShapes.add_plain, cell_of_row _ _ _ _ _ _ (heap_alloc_new w _), Nat.zero_add]
    match j, hj3 with
    | 0, _ => show some (Value.int .u8 ((i : Int) % 256)) = some (Value.int .u8 ((UInt8.ofNat i).toNat : Int)); rw [UInt8.toNat_ofNat']; congr 2
    | 1, _ =>
      show some (Value.int .u8 ((i : Int) / 256)) = some (Value.int .u8 ((UInt8.ofNat (i / 256)).toNat : Int))
      rw [UInt8.toNat_ofNat', Nat.mod_eq_of_lt (by omega)]; congr 2)
def fX (k : Nm) (t : Nm) : E8 := ⟨k, fV t, none, 0, none, 0, 0⟩
theorem arg_f {k t : Nm} (hk : k.length ≤ 1024) (ht : t.length ≤ 1024) : Arg8 (fX k t) :=
  ⟨by show k.length ≤ _; omega, ⟨by show (0 : Nat) ≤ _; omega, by show (0 : Nat) ≤ _; omega, by show t.length ≤ _; omega, (fun x hx => by cases hx), (fun x hx => by cases hx), (fun x hx => by cases hx), by show (-9223372036854775808 : Int) ≤ 1 ∧ (1 : Int) ≤ 9223372036854775807; decide, by show (-9223372036854775808 : Int) ≤ 0 ∧ (0 : Int) ≤ 9223372036854775807; decide, by show (-9223372036854775808 : Int) ≤ 0 ∧ (0 : Int) ≤ 9223372036854775807; decide⟩, by show 0 * 32 ≤ _; omega, by show 0 * 16 ≤ _; omega, by show (-9223372036854775808 : Int) ≤ 0 ∧ (0 : Int) ≤ 9223372036854775807; decide⟩
theorem lies_f (P : Nat → Prop) (w : World) (k t : Nm) : Lies P w (fX k t) := ⟨⟨Rp.nilRow w, Rd.nilRow w⟩, fun h => absurd rfl h, fun h => absurd rfl h⟩
set_option maxHeartbeats 8000000 in
set_option maxRecDepth 100000 in
theorem full_any {B : Nat} (hB0 : 0 < B) (w : World) (hT : Tab w) (hB : B ≤ w.heap.size) (n : Int) (hn : In64 n) :
    Calls Tryd.prog 3 #[.int .i64 n] w fun e w' => e = .returned (.bool true) ∧ Hid (Below w.heap.size w w') := by
  have HAl := hid (fun W (h : Below w.heap.size w W) => alive_any hB0 W (hT.env h) (Nat.le_trans hB h.size))
  have HN := hid (knew_any hB0 w hT hB 1073741824)
  unfold In64 at hn
  obtain ⟨hn1, hn2⟩ := hn
  clear hT
  go_enter Tryd.func3, Tryd.ntmps3
  go_wp2_with fail
  refine HN.out.mono ?_; rintro e w1 ⟨b, rfl, hh⟩
  obtain ⟨O1, A1, hS1, hA1, hb1⟩ := hh.out
  have HS1 := hid hS1
  have HA1 := hid hA1
  have HW1 := hid hb1
  clear hh hS1 hA1 hb1
  by_cases h0 : n < 0
  · go_wp2_with fail
    refine (HAl.out _ HW1.out).mono ?_; rintro e w3 ⟨rfl, hh⟩
    have HW3 := hid (HW1.out.trans (hh.out.mono HW1.out.size))
    clear hh
    go_wp2_with fail
    go_ret
    exact ⟨rfl, HW3.out⟩
  by_cases h9 : 20 < n
  · go_wp2_with fail
    refine (HAl.out _ HW1.out).mono ?_; rintro e w3 ⟨rfl, hh⟩
    have HW3 := hid (HW1.out.trans (hh.out.mono HW1.out.size))
    clear hh
    go_wp2_with fail
    go_ret
    exact ⟨rfl, HW3.out⟩
  have h0' : 0 ≤ n := by omega
  have h9' : n ≤ 20 := by omega
  clear h0 h9 hn1 hn2
  obtain ⟨m, hm⟩ : ∃ m : Nat, 4096 + n = (m : Int) := ⟨(4096 + n).toNat, by omega⟩
  have hm1 : 4096 ≤ m := by omega
  have hm2 : m ≤ 4116 := by omega
  go_wp2_with fail
  go_loopw [24] (fun v24 W => ∃ k : Nat, v24 = .int .i64 k ∧ k ≤ m ∧ Hid (∃ O A L, Sp B W b O A L 1073741824 0 ∧ FullIs k L ∧ (∀ j, A j → w.heap.size ≤ j)) ∧ Hid (Below w.heap.size w W)) (fun v24 _ => m - (intOf v24).toNat)
  case atStart => exact ⟨0, rfl, Nat.zero_le _, ⟨O1, A1, [], HS1.out, full_nil, HA1.out⟩, HW1.out⟩
  case round =>
    obtain ⟨k, rfl, hk, HI, HW⟩ := hrel
    obtain ⟨O, A, L, hS, hF, hA⟩ := HI.out
    by_cases hlt : k < m
    · have hkz : (k : Int) < 4096 + n := by omega
      have hkz2 : (k : Int) < 4116 := by omega
      have hc := conv_key k (by omega) wr
      have hb2 := below_alloc wr (.cells #[.int .u8 ((k : Int) % 256), .int .u8 ((k : Int) / 256)] 5)
      have hS2 := hS.below hb2
      have HP := sp_put hS2 (fX (fkey k) []) (arg_f (by show 2 ≤ 1024; decide) (by decide)) (lies_f _ _ _ _)
      have hpe : putEL L 1073741824 0 (pr8 (fX (fkey k) [])) = if k < 4096 then 0 else 110 := hF.put (by omega)
      have hnx : FullIs (k + 1) (putLL L 1073741824 0 (pr8 (fX (fkey k) []))) := hF.next (by omega)
      have hlk : (fkey k).length = 2 := rfl
      rw [hpe] at HP
      have HP := hid HP
      have HNx := hid hnx
      have HSu := hid hS2.sub
      have HA := hid hA
      have HB2 := hid (HW.out.trans (hb2.mono HW.out.size))
      clear hS hF hA hS2 hpe hnx hlk HI hb2
      generalize putLL L 1073741824 0 (pr8 (fX (fkey k) [])) = L' at *
      unfold fX at HP
      generalize fkey k = ky at *
      by_cases h4 : k < 4096
      · rw [if_pos h4] at HP
        have h4z : (k : Int) < 4096 := by omega
        go_wp2_with fail
        refine HP.out.mono ?_; rintro e w3 ⟨rfl, hh⟩
        obtain ⟨O3, A3, hS3, hst⟩ := hh.out
        obtain ⟨hu1, hu2⟩ := hst.under HA.out HSu.out HB2.out.size
        have HW3 := hid (HB2.out.trans hu1)
        have HI3 : Hid (∃ O A L, Sp B w3 b O A L 1073741824 0 ∧ FullIs (k + 1) L ∧ (∀ j, A j → w.heap.size ≤ j)) := ⟨O3, A3, L', hS3, HNx.out, hu2⟩
        clear hh hS3 hst hu1 hu2
        go_wp2_with fail
        exact ⟨⟨k + 1, by go_num, by omega, HI3.out, HW3.out⟩, by simp [intOf]; omega⟩
      · rw [if_neg h4] at HP
        have h4z : ¬ (k : Int) < 4096 := by omega
        go_wp2_with fail
        refine HP.out.mono ?_; rintro e w3 ⟨rfl, hh⟩
        obtain ⟨O3, A3, hS3, hst⟩ := hh.out
        obtain ⟨hu1, hu2⟩ := hst.under HA.out HSu.out HB2.out.size
        have HW3 := hid (HB2.out.trans hu1)
        have HI3 : Hid (∃ O A L, Sp B w3 b O A L 1073741824 0 ∧ FullIs (k + 1) L ∧ (∀ j, A j → w.heap.size ≤ j)) := ⟨O3, A3, L', hS3, HNx.out, hu2⟩
        clear hh hS3 hst hu1 hu2
        go_wp2_with fail
        exact ⟨⟨k + 1, by go_num, by omega, HI3.out, HW3.out⟩, by simp [intOf]; omega⟩
    · obtain rfl : k = m := by omega
      have hkz : ¬ (k : Int) < 4096 + n := by omega
      have hl4 : L.length = 4096 := by have := hF.len; omega
      have hag := hF.again hm1
      have HS := hid hS
      have HA := hid hA
      have HL4 := hid hl4
      have HAg : Hid (putEL L 1073741824 0 (pr8 (fX [0, 0] [120])) = 0) := hag
      clear hS hF hA HI hl4 hag
      go_wp2_with fail
      refine (HAl.out _ HW.out).mono ?_; rintro e w3 ⟨rfl, hh⟩
      have HW3 := hid (HW.out.trans (hh.out.mono HW.out.size))
      have HS3 := hid (HS.out.below hh.out)
      clear hh
      have HLn := sp_len HS3.out
      rw [HL4.out] at HLn
      have HLn := hid HLn
      go_wp2_with fail
      refine HLn.out.mono ?_; rintro e w4 ⟨rfl, hh⟩
      have HW4 := hid (HW3.out.trans (hh.out.mono HW3.out.size))
      have HS4 := hid (HS3.out.below hh.out)
      clear hh
      have HP := sp_put HS4.out (fX [0, 0] [120]) (arg_f (by decide) (by decide)) (lies_f _ _ _ _)
      rw [HAg.out] at HP
      have HP := hid HP
      unfold fX at HP
      go_wp2_with fail
      refine HP.out.mono ?_; rintro e w5 ⟨rfl, hh⟩
      obtain ⟨O5, A5, hS5, hst⟩ := hh.out
      have HW5 := hid (HW4.out.trans (hst.under HA.out HS4.out.sub HW4.out.size).1)
      clear hh hS5 hst
      go_wp2_with fail
      go_ret
      exact ⟨rfl, HW5.out⟩

end Go.Proofs.YtppgifaegnmciaaDoor

namespace Go.Proofs.YtppgifaegnmciaaDoor.keyspaceFull
open Go.ChangeShapes Go.WideShapes Go.ChangeAt Go.RowKit
open Go.ChangeMaps (open_string shut_string)


theorem own : ownKnob Tryd.prog.godebug = none := by kernel_rfl
theorem laidOut : laidOutB Tryd.prog = true := by kernel_rfl
set_option maxRecDepth 100000 in
theorem contract (H : Type) (enc : TypeId × Value → H) (W : World) (base : Nat) (args : Array Value) (ds gs : List (DataW H)) (before : List MemPlace)
    (hval : ∀ (j : Nat) t v, Tryd.f3.params[j]? = some t → args[j]? = some v → Value.okWide Tryd.prog W .any base t v)
    (hW : DataW.Whole enc Tryd.prog Tryd.f3.params.toList Rows.keyspaceFullSpec.vars false W args.toList ds gs before) (hsz0 : (DataW.weightsEach Tryd.prog (Tryd.f3.params.toList ++ Rows.keyspaceFullSpec.plain.varTypes Tryd.prog) (ds ++ gs)).all (· ≤ reachBytes) = true) (hL : laidMetH Tryd.prog listed W) :
    Calls Tryd.prog 3 args W fun e W' => ∃ v, e = .returned v ∧ Rows.keyspaceFullSpec.post enc Tryd.prog Tryd.f3 false true false false W args v W' := by
  have hW' := hW
  obtain ⟨p, q, hA0, hV, rfl, hfz, hnd⟩ := hW
  have hA : DataW.TrodAll enc Tryd.prog W 0 (fun _ => true) true Tryd.f3.params.toList args.toList ds p := hA0
  have hsz : (DataW.weightsEach Tryd.prog (Tryd.f3.params.toList ++ Rows.keyspaceFullSpec.plain.varTypes Tryd.prog) (ds ++ gs)).all (· ≤ reachBytes) = true := hsz0
  clear hsz0
  rw [Tryd.params3] at hA hval hsz
  obtain ⟨v0, vs0, d0, ds0, p0, q0, hargs, rfl, rfl, h0, r0⟩ := trodAll_cons hA
  obtain ⟨rfl, rfl, rfl⟩ := trodAll_nil r0
  obtain rfl : args = #[v0] := by cases args; simp_all
  obtain ⟨rfl, rfl⟩ := trodVars_none hV
  obtain ⟨a0, rfl, rfl, rfl, w0⟩ := open_int Tryd.underlying3 (hval 0 3 v0 rfl rfl) h0
  have bd0 := bounds_i64 w0
  clear hA0
  have hT := env_of hL
  refine (full_any (tab_lt hT) W hT (Nat.le_refl _) a0  bd0).mono fun e W' ⟨he, bel⟩ => ?_
  subst he
  exact ⟨_, rfl, _, _, _, [], _, [], hW', trodAll_mk1 (shut_bool Tryd.underlying4 _), (trodAll_cons_mk (shut_int Tryd.underlying3 w0) trodAll_mk0), rfl, bel.frame _, fun h => by cases h⟩
theorem reads (os : Os) {H : Type} (enc : TypeId × Value → H) : ∃ places, DataW.whole enc Tryd.prog ((laidWorld Tryd.prog os).forCall (fun _ _ => 0) ⟨#[], #[.int .i64 0], []⟩).memory Tryd.f3.params.toList Rows.keyspaceFullSpec.vars false (#[.int .i64 0] : Array Value).toList 8 = some ([.lit (.int .i64 0)], [], places) :=
  ⟨[], by kernel_rfl⟩

set_option maxRecDepth 100000 in
theorem lifted (os : Os) (started : os.Started) (H : Type) (enc : TypeId × Value → H) (F : Stop.Interp) :
    ReturnsInHanded {} Tryd.checked os 3 .any ((OpenSpec.ofChange Rows.keyspaceFullSpec).preRow enc Tryd.prog Tryd.f3 Rows.keyspaceFullRow.domain false Rows.keyspaceFullRow.laid) (((OpenSpec.ofChange Rows.keyspaceFullSpec).at F).post enc Tryd.prog Tryd.f3 false true false false) := by
  obtain ⟨places, hx⟩ := reads os enc
  refine returnsInHanded_of_row (C := Tryd.checked) (s := OpenSpec.ofChange Rows.keyspaceFullSpec) own started (by kernel_rfl) Tryd.func3
    (witness_row_at (enc := enc) (C := Tryd.checked) false (laidWorld Tryd.prog os) #[.int .i64 0] rfl (by kernel_rfl) (by kernel_rfl) (by kernel_rfl)
      (OpenSpec.preRow_of_cond 8 hx (by kernel_rfl) (fun k hk => by cases hk) (by kernel_rfl) (laid_met os _))) ?_
  intro W base args ds gs before hval hW _ hcond hsz hL _ _
  exact contract H enc W base args ds gs before hval hW hsz hL

theorem said : Rows.KeyspaceFullSaid :=
  OpenClaim.holds_of_cond 3 Tryd.f3 rfl rfl rfl rfl rfl rfl rfl ⟨rfl, rfl, rfl, rfl, rfl⟩ rfl rfl rfl rfl rfl (by kernel_rfl) Tryd.func3 (by kernel_rfl)
    (of_decide_eq_true (by kernel_rfl)) (by unfold Func.isWrapper; first | (rw [if_pos (by decide +kernel)]; kernel_rfl) | (rw [if_neg (by decide +kernel)]; exact ⟨rfl, rfl⟩))
    (fun os started H enc _ F => by rw [OpenClaim.pre_eq_preRow]; exact lifted os started H enc F)

theorem plain (f : FuncId) (fn : Func) (hf : Tryd.pinned.checked.prog.funcNamed "marshalyard/marshalyardlaw11.KeyspaceFull" = some f) (hfn : Tryd.pinned.checked.prog.funcs[f]? = some fn) :
    false = Tryd.pinned.checked.prog.looks [] ∧ ∀ (j : Nat) t, fn.params[j]? = some t → Tryd.pinned.checked.prog.wantsStandIn t = false := by
  obtain rfl : f = 3 := Option.some.inj ((show Tryd.prog.funcNamed "marshalyard/marshalyardlaw11.KeyspaceFull" = some 3 by kernel_rfl).symm.trans hf) |>.symm
  obtain rfl : fn = Tryd.f3 := (Option.some.inj (Tryd.func3.symm.trans hfn)).symm
  refine ⟨by kernel_rfl, fun j t ht => ?_⟩
  rw [Tryd.params3] at ht
  have hm : t = 3 := by simpa using Array.mem_of_getElem? ht
  rcases hm with rfl
  · exact (show Tryd.prog.wantsStandIn 3 = false by kernel_rfl)

end Go.Proofs.YtppgifaegnmciaaDoor.keyspaceFull
namespace Go.Proofs.YtppgifaegnmciaaDoor
open Go
/-- THE CARD -/
theorem keyspaceFull_card : Rows.KeyspaceFullCardSaid :=
  Claim7.holds_tied_plain_at .later [] _ _ _ _ keyspaceFull.said (fun _ h => by cases h) (by kernel_rfl) (fun _ h => by cases h) keyspaceFull_row_tie rfl ⟨rfl, rfl⟩ (by kernel_rfl) rfl keyspaceFull.plain (by kernel_rfl)
#print axioms keyspaceFull_card
end Go.Proofs.YtppgifaegnmciaaDoor
