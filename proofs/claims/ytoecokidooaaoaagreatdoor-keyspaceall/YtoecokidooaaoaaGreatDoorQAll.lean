/- LawAll, KeyspaceAll. -/
import Derived.Test.YtoecokidooaaoaaGreatDoorM43
import Derived.Test.YtoecokidooaaoaaGreatDoorM42
import Derived.Test.YtoecokidooaaoaaGreatDoorCards
import Derived.Test.YtoecokidooaaoaaGreatDoorTie
import Derived.ProofKit
import Derived.OpenShut
import Derived.ShutString
import Derived.ChangeMaps5
import Derived.ChangeOld
import Derived.RowKit
import Derived.Deep.DeepHandedRow
import Derived.SizedLaws
import Derived.Test.YtoecokidooaaoaaGreatDoorM44
namespace Go.Proofs.YtoecokidooaaoaaGreatDoor
open Go.RowKit

theorem Both.below {B : Nat} {w w' : World} {b : Nat} {O A P : Nat → Prop} {L : List EP} {room now : Int} {p : Option Addr} {c n : Nat} (h : Both B w b O A P L room now p c n) (k : Below w.heap.size w w') : Both B w' b O A P L room now p c n := by
  obtain ⟨k1, ⟨R, k2, k3⟩, k4⟩ := h
  exact ⟨k1.below k, ⟨R, k2.below k, k3⟩, k4⟩
set_option maxHeartbeats 4000000 in
set_option maxRecDepth 100000 in
theorem all_any {B : Nat} (hB0 : 0 < B) (w : World) (hT : Tab w) (hB : B ≤ w.heap.size) (room : Int) (p : Option Addr) (ops : List OpK) (cp : Nat) (hG : Given w p ops) :
    Calls Tryz.prog 3 #[.int .i64 room, .slice p ops.length cp] w fun e w' => e = .returned (.bool true) ∧ Hid (Below w.heap.size w w') := by
  have HAl := hid (fun W (h : Below w.heap.size w W) => alive_any hB0 W (hT.env h) (Nat.le_trans hB h.size))
  have hba := below_alloc w (sob none 0 0 0 0)
  cases hf : fewB ops with
  | false =>
    have HM := hid (fun W (h : Below w.heap.size w W) => begun_many hB0 W (hT.env h) (Nat.le_trans hB h.size) room p ops cp (hG.below h) hf)
    clear hT hG hba
    go_enter Tryz.func3, Tryz.ntmps3
    go_wp2_with fail
    refine (HM.out w (Below.refl _ _)).mono ?_; rintro e w1 ⟨rfl, hh⟩
    have HW2 := hid (hh.out.trans ((below_alloc w1 (sob none 0 0 room 0)).mono hh.out.size))
    have HR := hid (heap_alloc_new w1 (sob none 0 0 room 0))
    obtain ⟨r0, r1, r2⟩ := sp_facts HR.out
    clear hh
    go_wp2_with fail
    refine (HAl.out _ HW2.out).mono ?_; rintro e w3 ⟨rfl, hh⟩
    have HW3 := hid (HW2.out.trans (hh.out.mono HW2.out.size))
    clear hh
    go_wp2_with fail
    go_ret
    exact ⟨rfl, HW3.out⟩
  | true =>
    have HM := hid (fun W (h : Below w.heap.size w W) => begun_few hB0 W (hT.env h) (Nat.le_trans hB h.size) room p ops cp (hG.below h) hf)
    clear hT hG hba
    go_enter Tryz.func3, Tryz.ntmps3
    go_wp2_with fail
    refine (HM.out w (Below.refl _ _)).mono ?_; rintro e w1 ⟨b, q, d, rfl, hh⟩
    obtain ⟨O, A, hbo, -, hb1⟩ := hh.out
    generalize runL room ops = s at *
    obtain ⟨L, nw⟩ := s
    dsimp only at *
    have hba := below_alloc w1 (sob q L.length d room nw)
    have HW2 := hid (hb1.trans (hba.mono hb1.size))
    have HB2 := hid (hbo.below hba)
    have HR := hid (heap_alloc_new w1 (sob q L.length d room nw))
    obtain ⟨r0, r1, r2⟩ := sp_facts HR.out
    have hz : w1.heap.size < (w1.alloc (sob q L.length d room nw)).heap.size := by simp
    have HZ := hid hz
    clear hh hbo hb1 hba hz
    go_wp2_with fail
    refine (HAl.out _ HW2.out).mono ?_; rintro e w3 ⟨rfl, hh⟩
    have HW3 := hid (HW2.out.trans (hh.out.mono HW2.out.size))
    have HB3 := hid (HB2.out.below hh.out)
    obtain ⟨s0, s1, s2⟩ := sp_facts ((hh.out.block w1.heap.size HZ.out).trans HR.out)
    clear hh r0 r1 r2
    go_wp2_with fail
    refine (stands_any HB3.out).mono ?_; rintro e w4 ⟨rfl, hh⟩
    have HW4 := hid (HW3.out.trans (hh.out.mono HW3.out.size))
    clear hh
    go_wp2_with fail
    go_ret
    exact ⟨rfl, HW4.out⟩

end Go.Proofs.YtoecokidooaaoaaGreatDoor

namespace Go.Proofs.YtoecokidooaaoaaGreatDoor.keyspaceAll
open Go.ChangeShapes Go.WideShapes Go.ChangeAt Go.RowKit
open Go.ChangeMaps (open_string shut_string)


theorem own : ownKnob Tryz.prog.godebug = none := by kernel_rfl
theorem laidOut : laidOutB Tryz.prog = true := by kernel_rfl
set_option maxRecDepth 100000 in
theorem contract (H : Type) (enc : TypeId × Value → H) (W : World) (base : Nat) (args : Array Value) (ds gs : List (DataW H)) (before : List MemPlace)
    (hval : ∀ (j : Nat) t v, Tryz.f3.params[j]? = some t → args[j]? = some v → Value.okWide Tryz.prog W .any base t v)
    (hW : DataW.Whole enc Tryz.prog Tryz.f3.params.toList Rows.keyspaceAllSpec.vars false W args.toList ds gs before) (hsz0 : (DataW.weightsEach Tryz.prog (Tryz.f3.params.toList ++ Rows.keyspaceAllSpec.plain.varTypes Tryz.prog) (ds ++ gs)).all (· ≤ reachBytes) = true) (hL : laidMetH Tryz.prog listed W) :
    Calls Tryz.prog 3 args W fun e W' => ∃ v, e = .returned v ∧ Rows.keyspaceAllSpec.post enc Tryz.prog Tryz.f3 false true false false W args v W' := by
  have hW' := hW
  obtain ⟨p, q, hA0, hV, rfl, hfz, hnd⟩ := hW
  have hA : DataW.TrodAll enc Tryz.prog W 0 (fun _ => true) true Tryz.f3.params.toList args.toList ds p := hA0
  have hsz : (DataW.weightsEach Tryz.prog (Tryz.f3.params.toList ++ Rows.keyspaceAllSpec.plain.varTypes Tryz.prog) (ds ++ gs)).all (· ≤ reachBytes) = true := hsz0
  clear hsz0
  rw [Tryz.params3] at hA hval hsz
  obtain ⟨v0, vs0, d0, ds0, p0, q0, hargs, rfl, rfl, h0, r0⟩ := trodAll_cons hA
  obtain ⟨v1, vs1, d1, ds1, p1, q1, rfl, rfl, rfl, h1, r1⟩ := trodAll_cons r0
  obtain ⟨rfl, rfl, rfl⟩ := trodAll_nil r1
  obtain rfl : args = #[v0, v1] := by cases args; simp_all
  obtain ⟨rfl, rfl⟩ := trodVars_none hV
  obtain ⟨a0, rfl, rfl, rfl, w0⟩ := open_int Tryz.underlying3 (hval 0 3 v0 rfl rfl) h0
  obtain ⟨a1, len1, cap1, rfl⟩ := okWide_slice Tryz.underlying22 (hval 1 22 v1 rfl rfl)
  have k1 := h1
  have lt1 : ∀ x ∈ p1, x.block < W.heap.size := by obtain ⟨m, hm⟩ := k1; exact DataW.trod_lt m _ _ _ hm
  obtain ⟨l1, hl1, hs1⟩ : ∃ l : List OpK, l.length = len1 ∧ Given W a1 l := by
    obtain ⟨m, hm⟩ := h1
    exact open_ops hm (fun n hn => by
      have h : decide (n ≤ reachBytes) = true := List.all_eq_true.1 hsz _ (DataW.weights_mem_each (j := 1) (t := 22) (d := d1) rfl rfl _ hn)
      have h' := of_decide_eq_true h
      simpa [reachBytes] using h')
  subst hl1
  clear hA0
  have hT := env_of hL
  refine (all_any (tab_lt hT) W hT (Nat.le_refl _) a0 a1 l1 cap1  hs1).mono fun e W' ⟨he, bel⟩ => ?_
  subst he
  exact ⟨_, rfl, _, _, _, [], _, [], hW', trodAll_mk1 (shut_bool Tryz.underlying4 _), (trodAll_cons_mk (shut_int Tryz.underlying3 w0) (trodAll_cons_mk (Below.trod laidOut (by kernel_rfl) (of_decide_eq_true (by kernel_rfl)) k1 bel lt1) trodAll_mk0)), rfl, bel.frame _, fun h => by cases h⟩
theorem reads (os : Os) {H : Type} (enc : TypeId × Value → H) : ∃ places, DataW.whole enc Tryz.prog ((laidWorld Tryz.prog os).forCall (fun _ _ => 0) ⟨#[], #[.int .i64 0, .slice none 0 0], []⟩).memory Tryz.f3.params.toList Rows.keyspaceAllSpec.vars false (#[.int .i64 0, .slice none 0 0] : Array Value).toList 8 = some ([.lit (.int .i64 0), .nil], [], places) :=
  ⟨[], by kernel_rfl⟩

set_option maxRecDepth 100000 in
theorem lifted (os : Os) (started : os.Started) (H : Type) (enc : TypeId × Value → H) (F : Stop.Interp) :
    ReturnsInHanded {} Tryz.checked os 3 .any ((OpenSpec.ofChange Rows.keyspaceAllSpec).preRow enc Tryz.prog Tryz.f3 Rows.keyspaceAllRow.domain false Rows.keyspaceAllRow.laid) (((OpenSpec.ofChange Rows.keyspaceAllSpec).at F).post enc Tryz.prog Tryz.f3 false true false false) := by
  obtain ⟨places, hx⟩ := reads os enc
  refine returnsInHanded_of_row (C := Tryz.checked) (s := OpenSpec.ofChange Rows.keyspaceAllSpec) own started (by kernel_rfl) Tryz.func3
    (witness_row_at (enc := enc) (C := Tryz.checked) false (laidWorld Tryz.prog os) #[.int .i64 0, .slice none 0 0] rfl (by kernel_rfl) (by kernel_rfl) (by kernel_rfl)
      (OpenSpec.preRow_of_cond 8 hx (by kernel_rfl) (fun k hk => by cases hk) (by kernel_rfl) (laid_met os _))) ?_
  intro W base args ds gs before hval hW _ hcond hsz hL _ _
  exact contract H enc W base args ds gs before hval hW hsz hL

theorem said : Rows.KeyspaceAllSaid :=
  OpenClaim.holds_of_cond 3 Tryz.f3 rfl rfl rfl rfl rfl rfl rfl ⟨rfl, rfl, rfl, rfl, rfl⟩ rfl rfl rfl rfl rfl (by kernel_rfl) Tryz.func3 (by kernel_rfl)
    (of_decide_eq_true (by kernel_rfl)) (by unfold Func.isWrapper; first | (rw [if_pos (by decide +kernel)]; kernel_rfl) | (rw [if_neg (by decide +kernel)]; exact ⟨rfl, rfl⟩))
    (fun os started H enc _ F => by rw [OpenClaim.pre_eq_preRow]; exact lifted os started H enc F)

theorem plain (f : FuncId) (fn : Func) (hf : Tryz.pinned.checked.prog.funcNamed "marshalyard/marshalyardlaw11.KeyspaceAll" = some f) (hfn : Tryz.pinned.checked.prog.funcs[f]? = some fn) :
    true = Tryz.pinned.checked.prog.looks [] ∧ ∀ (j : Nat) t, fn.params[j]? = some t → Tryz.pinned.checked.prog.wantsStandIn t = false := by
  obtain rfl : f = 3 := Option.some.inj ((show Tryz.prog.funcNamed "marshalyard/marshalyardlaw11.KeyspaceAll" = some 3 by kernel_rfl).symm.trans hf) |>.symm
  obtain rfl : fn = Tryz.f3 := (Option.some.inj (Tryz.func3.symm.trans hfn)).symm
  refine ⟨by kernel_rfl, fun j t ht => ?_⟩
  rw [Tryz.params3] at ht
  have hm : t = 3 ∨ t = 22 := by simpa using Array.mem_of_getElem? ht
  rcases hm with rfl | rfl
  · exact (show Tryz.prog.wantsStandIn 3 = false by kernel_rfl)
  · exact (show Tryz.prog.wantsStandIn 22 = false by kernel_rfl)

end Go.Proofs.YtoecokidooaaoaaGreatDoor.keyspaceAll
namespace Go.Proofs.YtoecokidooaaoaaGreatDoor
open Go
/-- THE CARD -/
theorem keyspaceAll_card : Rows.KeyspaceAllCardSaid :=
  Claim7.holds_tied_plain_at .later [] _ _ _ _ keyspaceAll.said (fun _ h => by cases h) (by kernel_rfl) (fun _ h => by cases h) keyspaceAll_row_tie rfl ⟨rfl, rfl⟩ (by kernel_rfl) rfl keyspaceAll.plain (by kernel_rfl)
#print axioms keyspaceAll_card
end Go.Proofs.YtoecokidooaaoaaGreatDoor
